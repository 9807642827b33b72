/- (impl.Party).compareCode, slices.BinarySearchFunc over parties, impl.searchParty, impl.mayBeAgent, impl.errorAbout. -/
import Derived.Test.YtjgagiigpijaiaaDoorReg
namespace Go.Proofs.YtjgagiigpijaiaaDoor
open Go.ChangeShapes Go.WideShapes Go.ChangeAt Go.RowKit
set_option linter.unusedVariables false

/-- The place of a code: behind all codes that are less. -/
def plc (ps : List Pty) (s : List UInt8) : Nat := ps.findIdx (fun q => !(Op.bytesLess q.c s))
theorem plc_le (ps : List Pty) (s : List UInt8) : plc ps s ≤ ps.length := List.findIdx_le_length
theorem plc_eq {ps : List Pty} {s : List UInt8} {p : Nat} (hp : p ≤ ps.length) (h1 : ∀ (i : Nat) (q : Pty), i < p → ps[i]? = some q → Op.bytesLess q.c s = true) (h2 : ∀ (i : Nat) (q : Pty), p ≤ i → ps[i]? = some q → Op.bytesLess q.c s = false) : plc ps s = p := by
  unfold plc
  rcases Nat.lt_or_ge p ps.length with hlt | hge
  · rw [List.findIdx_eq hlt]
    refine ⟨by rw [h2 p _ (Nat.le_refl _) (List.getElem?_eq_getElem hlt)]; rfl, fun j hj => ?_⟩
    rw [h1 j _ hj (List.getElem?_eq_getElem (by omega))]; rfl
  · obtain rfl : p = ps.length := by omega
    rw [List.findIdx_eq_length]
    intro x hx
    obtain ⟨j, hj⟩ := List.getElem?_of_mem hx
    rw [h1 j x (List.getElem?_eq_some_iff.1 hj).1 hj]; rfl
theorem plc_less {ps : List Pty} {s : List UInt8} {i : Nat} {q : Pty} (hi : i < plc ps s) (hq : ps[i]? = some q) : Op.bytesLess q.c s = true := by
  obtain ⟨h, e⟩ := List.getElem?_eq_some_iff.1 hq
  have := List.not_of_lt_findIdx hi
  rw [e] at this
  simpa using this
theorem plc_not {ps : List Pty} (h : ordTo ps ps.length = true) {s : List UInt8} {i : Nat} {q : Pty} (hi : plc ps s ≤ i) (hq : ps[i]? = some q) : Op.bytesLess q.c s = false := by
  obtain ⟨hl, e⟩ := List.getElem?_eq_some_iff.1 hq
  have hp : plc ps s < ps.length := by omega
  have h1 := List.findIdx_getElem (p := fun q : Pty => !(Op.bytesLess q.c s)) (w := hp)
  have h2 : Op.bytesLess (ps[plc ps s]'hp).c s = false := by
    have h5 := h1
    rw [Bool.not_eq_true'] at h5
    exact h5
  rcases Nat.lt_or_ge (plc ps s) i with h3 | h3
  · have hb := ord_before h h3 (List.getElem?_eq_getElem hp) hq
    cases hx : Op.bytesLess q.c s with
    | false => rfl
    | true => have := less_trans hb hx; rw [h2] at this; cases this
  · have : i = plc ps s := by omega
    subst this
    rw [e] at h2; exact h2
theorem fnd_plc {ps : List Pty} (h : ordTo ps ps.length = true) {s : List UInt8} {k : Nat} (hk : fnd ps s = some k) : plc ps s = k := by
  obtain ⟨p, hp, hc⟩ := fnd_at hk
  have hl := fnd_lt hk
  refine plc_eq (by omega) (fun i q hi hq => ?_) (fun i q hi hq => ?_)
  · have := ord_before h hi hq hp
    unfold befP at this; rwa [hc] at this
  · rcases Nat.lt_or_ge k i with h3 | h3
    · have := ord_before h h3 hp hq
      unfold befP at this; rw [hc] at this; exact less_asym this
    · obtain rfl : i = k := by omega
      rw [hp] at hq; rw [← Option.some.inj hq, hc]; exact less_irr _
/-- Whether the code is there. -/
def hasP (ps : List Pty) (s : List UInt8) : Bool := (fnd ps s).isSome
theorem hasP_at {ps : List Pty} (h : ordTo ps ps.length = true) {s : List UInt8} {p : Pty} (hp : ps[plc ps s]? = some p) : hasP ps s = (p.c == s) := by
  unfold hasP
  rcases Bool.eq_false_or_eq_true (p.c == s) with e | e
  · rw [fnd_key h hp (by simpa using e), e]; rfl
  · rw [e]
    cases hf : fnd ps s with
    | none => rfl
    | some k =>
      have hk := fnd_plc h hf
      obtain ⟨q, hq, hc⟩ := fnd_at hf
      rw [hk, hq] at hp
      rw [← Option.some.inj hp, hc] at e
      simp at e
theorem hasP_end {ps : List Pty} (h : ordTo ps ps.length = true) {s : List UInt8} (hp : plc ps s = ps.length) : hasP ps s = false := by
  unfold hasP
  cases hf : fnd ps s with
  | none => rfl
  | some k => have hk := fnd_plc h hf; have := fnd_lt hf; omega
theorem ordS_neg (x y : List UInt8) : decide (ordS x y < 0) = Op.bytesLess x y := by
  unfold ordS
  rcases Bool.eq_false_or_eq_true (Op.bytesLess x y) with h | h
  · simp [h]
  · by_cases h2 : x = y <;> simp [h, h2, less_irr]
theorem ordS_zero (x y : List UInt8) : (ordS x y == 0) = (x == y) := by
  unfold ordS
  rcases Bool.eq_false_or_eq_true (Op.bytesLess x y) with h | h
  · have : x ≠ y := by rintro rfl; rw [less_irr] at h; cases h
    simp [h, this]
  · by_cases h2 : x = y <;> simp [h, h2, less_irr]
theorem cmpCode_i (p : Pty) (s : List UInt8) (w : World) : Calls Tryd.prog 88 #[.agg #[.string ⟨p.c.toArray⟩, .int .i64 p.k, .string ⟨p.a.toArray⟩], .string ⟨s.toArray⟩] w (Gives w (.int .i64 (ordS p.c s))) := by
  have B : ∀ o, Hid (Below w.heap.size w (w.alloc o)) := fun o => Lib.hid ((Below.refl _ _).alloc (Nat.le_refl _) _)
  go_enter Tryd.func88, Tryd.ntmps88
  go_wp2_with (go_at_call 104; refine (cmpS_i _ _ _).mono ?_; rintro e w' ⟨rfl, rfl⟩)
  go_ret
  exact ⟨rfl, (B _).out⟩

set_option maxRecDepth 100000 in
set_option maxHeartbeats 4000000 in
theorem binP_i (A : Option Addr) (c : Nat) (ps : List Pty) (s : List UInt8) (w : World) (h : PtyR w A ps) (hn : ps.length ≤ 1048576) (ho : ordTo ps ps.length = true) :
    Calls Tryd.prog 87 #[.slice A ps.length c, .string ⟨s.toArray⟩, .func (.func 88) #[] #[]] w
      (Gives w (.tuple #[.int .i64 (plc ps s : Int), .bool (hasP ps s)])) := by
  have HP := Lib.hid (fun (p : Nat) (hp : p ≤ ps.length) h1 h2 => plc_eq (ps := ps) (s := s) hp h1 h2)
  have HH := Lib.hid (fun (p : Pty) (hp : ps[plc ps s]? = some p) => hasP_at (s := s) ho hp)
  have HX := Lib.hid (fun (hp : plc ps s = ps.length) => hasP_end (s := s) ho hp)
  have HM := Lib.hid (fun (i j : Nat) (q p : Pty) (hij : i < j) (hq : ps[i]? = some q) (hp : ps[j]? = some p) (hb : Op.bytesLess p.c s = true) => (less_trans (ord_before ho hij hq hp) hb : Op.bytesLess q.c s = true))
  clear ho
  go_enter Tryd.func87, Tryd.ntmps87
  go_wp2_with fail
  go_loopw [9, 10] (fun a b wr => ∃ i j : Nat, a = .int .i64 i ∧ b = .int .i64 j ∧ i ≤ j ∧ j ≤ ps.length ∧ Hid (∀ (k : Nat) (q : Pty), k < i → ps[k]? = some q → Op.bytesLess q.c s = true) ∧ Hid (∀ (k : Nat) (q : Pty), j ≤ k → ps[k]? = some q → Op.bytesLess q.c s = false) ∧ Below w.heap.size w wr) (fun a b _ => (intOf b).toNat - (intOf a).toNat)
  case atStart => exact ⟨0, ps.length, rfl, rfl, by omega, by omega, Lib.hid (fun k q hk => by omega), Lib.hid (fun k q hk hq => by have := (List.getElem?_eq_some_iff.1 hq).1; omega), Below.refl _ _⟩
  case round =>
    obtain ⟨i, j, rfl, rfl, hij, hj, hlo, hhi, hb⟩ := hrel
    by_cases hlt : i < j
    · obtain ⟨m, hmm⟩ : ∃ m, m = (i + j) / 2 := ⟨_, rfl⟩
      have hmi : i ≤ m := by omega
      have hmj : m < j := by omega
      have e1 : ((i : Int) + (j : Int)) / 2 = (m : Int) := by omega
      obtain ⟨b, off, q, rfl, hl, hq, h4⟩ := (h.below hb).at (show m < ps.length by omega)
      have c0 := h4.c0; have c1 := h4.c1; have c2 := h4.c2
      have HC := Lib.hid (fun w => cmpCode_i q s w)
      have hneg := ordS_neg q.c s
      have HY := Lib.hid (fun (hb : Op.bytesLess q.c s = true) (k : Nat) (p : Pty) (hk : k < m + 1) (hp : ps[k]? = some p) => (by
        rcases Nat.lt_or_ge k m with h1 | h1
        · exact HM.out k m p q h1 hp hq.out hb
        · obtain rfl : k = m := by omega
          rw [hq.out] at hp; obtain rfl := Option.some.inj hp; exact hb : Op.bytesLess p.c s = true))
      have HZ := Lib.hid (fun (hb : Op.bytesLess q.c s = false) (k : Nat) (p : Pty) (hk : m ≤ k) (hp : ps[k]? = some p) => (by
        rcases Nat.lt_or_ge m k with h1 | h1
        · cases hpb : Op.bytesLess p.c s with
          | false => rfl
          | true => have := HM.out m k q p h1 hq.out hp hpb; rw [hb] at this; cases this
        · obtain rfl : k = m := by omega
          rw [hq.out] at hp; obtain rfl := Option.some.inj hp; exact hb : Op.bytesLess p.c s = false))
      clear h4 h hq hmm HM HP HH HX
      generalize ordS q.c s = o at *
      generalize Op.bytesLess q.c s = be at *
      cases be
      · have HX : Hid (∀ (k : Nat) (p : Pty), m ≤ k → ps[k]? = some p → Op.bytesLess p.c s = false) := Lib.hid (HZ.out rfl)
        clear HY HZ
        go_wp2_with (go_at_call 88; refine (HC.out _).mono ?_; rintro e w1 ⟨rfl, b1⟩)
        go_roundw
        case rel => exact ⟨i, m, rfl, rfl, by omega, by omega, hlo, HX, belowGo hb b1⟩
        case measure => simp [intOf]; omega
      · have HX : Hid (∀ (k : Nat) (p : Pty), k < m + 1 → ps[k]? = some p → Op.bytesLess p.c s = true) := Lib.hid (HY.out rfl)
        clear HY HZ
        go_wp2_with (go_at_call 88; refine (HC.out _).mono ?_; rintro e w1 ⟨rfl, b1⟩)
        go_roundw
        case rel => exact ⟨m + 1, j, by go_num, rfl, by omega, by omega, HX, hhi, belowGo hb b1⟩
        case measure => simp [intOf]; omega
    · obtain rfl : i = j := by omega
      have hp := HP.out i hj hlo.out hhi.out
      have HE : Hid (plc ps s = i) := Lib.hid hp
      by_cases hlen : i < ps.length
      · obtain ⟨b, off, q, rfl, hl, hq, h4⟩ := (h.below hb).at hlen
        have c0 := h4.c0; have c1 := h4.c1; have c2 := h4.c2
        have HC := Lib.hid (fun w => cmpCode_i q s w)
        have HZ : Hid (hasP ps s = (ordS q.c s == 0)) := Lib.hid (by rw [ordS_zero]; exact HH.out q (by rw [hp]; exact hq.out))
        clear h4 h hq HM HP HH HX hp hlo hhi
        generalize ordS q.c s = o at *
        go_wp2_with (go_at_call 88; refine (HC.out _).mono ?_; rintro e w1 ⟨rfl, b1⟩)
        go_ret2
        exact ⟨by rw [HE.out, HZ.out] <;> rfl, belowGo hb b1⟩
      · have HZ : Hid (hasP ps s = false) := Lib.hid (HX.out (by rw [hp]; omega))
        clear h HM HP HH HX hp hlo hhi
        go_wp2_with fail
        go_ret2
        exact ⟨by rw [HE.out, HZ.out] <;> rfl, hb⟩
theorem search_i (A : Option Addr) (c : Nat) (ps : List Pty) (s : List UInt8) (w : World) (h : PtyR w A ps) (hn : ps.length ≤ 1048576) (ho : ordTo ps ps.length = true) :
    Calls Tryd.prog 77 #[.slice A ps.length c, .string ⟨s.toArray⟩] w (Gives w (.tuple #[.int .i64 (plc ps s : Int), .bool (hasP ps s)])) := by
  go_enter Tryd.func77, Tryd.ntmps77
  go_wp2_with fail
  refine (binP_i A c ps s w h hn ho).mono ?_
  rintro e w1 ⟨rfl, b1⟩
  go_wp2_with fail
  go_ret2
  exact ⟨rfl, b1⟩
theorem agB_at {ps : List Pty} (h : ordTo ps ps.length = true) {s : List UInt8} (hs : hasP ps s = true) : ∃ p, ps[plc ps s]? = some p ∧ agB ps s = (p.a == []) ∧ plc ps s < ps.length := by
  unfold hasP at hs
  cases hf : fnd ps s with
  | none => rw [hf] at hs; cases hs
  | some k =>
    have hk := fnd_plc h hf
    obtain ⟨p, hp, hc⟩ := fnd_at hf
    refine ⟨p, by rw [hk]; exact hp, ?_, by rw [hk]; exact fnd_lt hf⟩
    unfold agB; rw [hf]; simp [hp]
theorem agB_no {ps : List Pty} {s : List UInt8} (hs : hasP ps s = false) : agB ps s = false := by
  unfold hasP at hs
  cases hf : fnd ps s with
  | none => unfold agB; rw [hf]
  | some k => rw [hf] at hs; cases hs
set_option maxHeartbeats 1000000 in
theorem mayBe_i (A : Option Addr) (c : Nat) (ps : List Pty) (s : List UInt8) (w : World) (h : PtyR w A ps) (hn : ps.length ≤ 1048576) (ho : ordTo ps ps.length = true) :
    Calls Tryd.prog 86 #[.slice A ps.length c, .string ⟨s.toArray⟩] w (Gives w (.bool (agB ps s))) := by
  have HS := Lib.hid (search_i A c ps s w h hn ho)
  rcases Bool.eq_false_or_eq_true (hasP ps s) with hs | hs
  · obtain ⟨p, hp, he, hlt⟩ := agB_at ho hs
    rw [hs] at HS
    generalize plc ps s = k at *
    have E := Lib.hid he
    have hp := Lib.hid hp
    clear he ho
    go_enter Tryd.func86, Tryd.ntmps86
    go_wp2_with fail
    refine HS.out.mono ?_
    rintro e w1 ⟨rfl, b1⟩
    obtain ⟨b, off, q, rfl, hl, hq, h4⟩ := (h.below b1).at hlt
    obtain rfl : p = q := by have h1 := hp.out; have h2 := hq.out; rw [h1] at h2; exact Option.some.inj h2
    have c0 := h4.c0; have c1 := h4.c1; have c2 := h4.c2
    clear h4 h hp hq
    rcases Bool.eq_false_or_eq_true (p.a == []) with ha | ha
    all_goals
      rw [ha] at E
      go_wp2_with fail
      go_ret
      exact ⟨by rw [E.out] <;> rfl, b1⟩
  · have E := Lib.hid (agB_no hs)
    rw [hs] at HS
    clear ho hs h
    go_enter Tryd.func86, Tryd.ntmps86
    go_wp2_with fail
    refine HS.out.mono ?_
    rintro e w1 ⟨rfl, b1⟩
    go_wp2_with fail
    go_ret
    exact ⟨by rw [E.out] <;> rfl, b1⟩
/-- The errors of the chapter as values. -/
def errC (n : Int) : Value := .iface 99 (.int .i64 n)
def errP (s : List UInt8) (n : Int) : Value := .iface 109 (.agg #[.string ⟨s.toArray⟩, .iface 99 (.int .i64 n)])
theorem errorAbout_i (s : List UInt8) (n : Int) (w : World) : Calls Tryd.prog 76 #[.string ⟨s.toArray⟩, .int .i64 n] w fun e w' => e = .returned (errP s n) ∧ w = w' := by
  go_enter Tryd.func76, Tryd.ntmps76
  go_wp2_with fail
  go_ret
  exact ⟨rfl, rfl⟩
end Go.Proofs.YtjgagiigpijaiaaDoor
