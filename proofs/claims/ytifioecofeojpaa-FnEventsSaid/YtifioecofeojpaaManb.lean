/- (impl.Interest).compareCode, slices.BinarySearchFunc over interests, impl.searchInterest. (by gen_man.py, with XRegb) -/
import Derived.Test.YtifioecofeojpaaMan
namespace Go.Proofs.Ytifioecofeojpaa
open Go.ChangeShapes Go.WideShapes Go.ChangeAt Go.RowKit
set_option linter.unusedVariables false

/-- The place of a code: behind all codes that are less. -/
def plcM (ps : List Ist) (s : List UInt8) : Nat := ps.findIdx (fun q => !(Op.bytesLess q.c s))
theorem plc_leM (ps : List Ist) (s : List UInt8) : plcM ps s ≤ ps.length := List.findIdx_le_length
theorem plc_eqM {ps : List Ist} {s : List UInt8} {p : Nat} (hp : p ≤ ps.length) (h1 : ∀ (i : Nat) (q : Ist), i < p → ps[i]? = some q → Op.bytesLess q.c s = true) (h2 : ∀ (i : Nat) (q : Ist), p ≤ i → ps[i]? = some q → Op.bytesLess q.c s = false) : plcM ps s = p := by
  unfold plcM
  rcases Nat.lt_or_ge p ps.length with hlt | hge
  · rw [List.findIdx_eq hlt]
    refine ⟨by rw [h2 p _ (Nat.le_refl _) (List.getElem?_eq_getElem hlt)]; rfl, fun j hj => ?_⟩
    rw [h1 j _ hj (List.getElem?_eq_getElem (by omega))]; rfl
  · obtain rfl : p = ps.length := by omega
    rw [List.findIdx_eq_length]
    intro x hx
    obtain ⟨j, hj⟩ := List.getElem?_of_mem hx
    rw [h1 j x (List.getElem?_eq_some_iff.1 hj).1 hj]; rfl
theorem plc_lessM {ps : List Ist} {s : List UInt8} {i : Nat} {q : Ist} (hi : i < plcM ps s) (hq : ps[i]? = some q) : Op.bytesLess q.c s = true := by
  obtain ⟨h, e⟩ := List.getElem?_eq_some_iff.1 hq
  have := List.not_of_lt_findIdx hi
  rw [e] at this
  simpa using this
theorem plc_notM {ps : List Ist} (h : ordToM ps ps.length = true) {s : List UInt8} {i : Nat} {q : Ist} (hi : plcM ps s ≤ i) (hq : ps[i]? = some q) : Op.bytesLess q.c s = false := by
  obtain ⟨hl, e⟩ := List.getElem?_eq_some_iff.1 hq
  have hp : plcM ps s < ps.length := by omega
  have h1 := List.findIdx_getElem (p := fun q : Ist => !(Op.bytesLess q.c s)) (w := hp)
  have h2 : Op.bytesLess (ps[plcM ps s]'hp).c s = false := by
    have h5 := h1
    rw [Bool.not_eq_true'] at h5
    exact h5
  rcases Nat.lt_or_ge (plcM ps s) i with h3 | h3
  · have hb := ord_beforeM h h3 (List.getElem?_eq_getElem hp) hq
    cases hx : Op.bytesLess q.c s with
    | false => rfl
    | true => have := less_trans hb hx; rw [h2] at this; cases this
  · have : i = plcM ps s := by omega
    subst this
    rw [e] at h2; exact h2
theorem fnd_plcM {ps : List Ist} (h : ordToM ps ps.length = true) {s : List UInt8} {k : Nat} (hk : fndM ps s = some k) : plcM ps s = k := by
  obtain ⟨p, hp, hc⟩ := fnd_atM hk
  have hl := fnd_ltM hk
  refine plc_eqM (by omega) (fun i q hi hq => ?_) (fun i q hi hq => ?_)
  · have := ord_beforeM h hi hq hp
    unfold befPM at this; rwa [hc] at this
  · rcases Nat.lt_or_ge k i with h3 | h3
    · have := ord_beforeM h h3 hp hq
      unfold befPM at this; rw [hc] at this; exact less_asym this
    · obtain rfl : i = k := by omega
      rw [hp] at hq; rw [← Option.some.inj hq, hc]; exact less_irr _
/-- Whether the code is there. -/
def hasPM (ps : List Ist) (s : List UInt8) : Bool := (fndM ps s).isSome
theorem hasP_atM {ps : List Ist} (h : ordToM ps ps.length = true) {s : List UInt8} {p : Ist} (hp : ps[plcM ps s]? = some p) : hasPM ps s = (p.c == s) := by
  unfold hasPM
  rcases Bool.eq_false_or_eq_true (p.c == s) with e | e
  · rw [fnd_keyM h hp (by simpa using e), e]; rfl
  · rw [e]
    cases hf : fndM ps s with
    | none => rfl
    | some k =>
      have hk := fnd_plcM h hf
      obtain ⟨q, hq, hc⟩ := fnd_atM hf
      rw [hk, hq] at hp
      rw [← Option.some.inj hp, hc] at e
      simp at e
theorem hasP_endM {ps : List Ist} (h : ordToM ps ps.length = true) {s : List UInt8} (hp : plcM ps s = ps.length) : hasPM ps s = false := by
  unfold hasPM
  cases hf : fndM ps s with
  | none => rfl
  | some k => have hk := fnd_plcM h hf; have := fnd_ltM hf; omega
theorem ordS_negM (x y : List UInt8) : decide (ordS x y < 0) = Op.bytesLess x y := by
  unfold ordS
  rcases Bool.eq_false_or_eq_true (Op.bytesLess x y) with h | h
  · simp [h]
  · by_cases h2 : x = y <;> simp [h, h2, less_irr]
theorem ordS_zeroM (x y : List UInt8) : (ordS x y == 0) = (x == y) := by
  unfold ordS
  rcases Bool.eq_false_or_eq_true (Op.bytesLess x y) with h | h
  · have : x ≠ y := by rintro rfl; rw [less_irr] at h; cases h
    simp [h, this]
  · by_cases h2 : x = y <;> simp [h, h2, less_irr]
theorem cmpCode_iM (p : Ist) (s : List UInt8) (w : World) : Calls Try.prog 92 #[.agg #[.string ⟨p.c.toArray⟩, .int .i64 p.k, .string ⟨p.o.toArray⟩, .int .i64 p.v, .int .i64 p.a], .string ⟨s.toArray⟩] w (Gives w (.int .i64 (ordS p.c s))) := by
  have B : ∀ o, Hid (Below w.heap.size w (w.alloc o)) := fun o => Lib.hid ((Below.refl _ _).alloc (Nat.le_refl _) _)
  go_enter Try.func92, Try.ntmps92
  go_wp2_with (go_at_call 98; refine (cmpS_i _ _ _).mono ?_; rintro e w' ⟨rfl, rfl⟩)
  go_ret
  exact ⟨rfl, (B _).out⟩

set_option maxRecDepth 100000 in
set_option maxHeartbeats 4000000 in
theorem binP_iM (A : Option Addr) (c : Nat) (ps : List Ist) (s : List UInt8) (w : World) (h : IstR w A ps) (hn : ps.length ≤ 1048576) (ho : ordToM ps ps.length = true) :
    Calls Try.prog 91 #[.slice A ps.length c, .string ⟨s.toArray⟩, .func (.func 92) #[] #[]] w
      (Gives w (.tuple #[.int .i64 (plcM ps s : Int), .bool (hasPM ps s)])) := by
  have HP := Lib.hid (fun (p : Nat) (hp : p ≤ ps.length) h1 h2 => plc_eqM (ps := ps) (s := s) hp h1 h2)
  have HH := Lib.hid (fun (p : Ist) (hp : ps[plcM ps s]? = some p) => hasP_atM (s := s) ho hp)
  have HX := Lib.hid (fun (hp : plcM ps s = ps.length) => hasP_endM (s := s) ho hp)
  have HM := Lib.hid (fun (i j : Nat) (q p : Ist) (hij : i < j) (hq : ps[i]? = some q) (hp : ps[j]? = some p) (hb : Op.bytesLess p.c s = true) => (less_trans (ord_beforeM ho hij hq hp) hb : Op.bytesLess q.c s = true))
  clear ho
  go_enter Try.func91, Try.ntmps91
  go_wp2_with fail
  go_loopw [9, 10] (fun a b wr => ∃ i j : Nat, a = .int .i64 i ∧ b = .int .i64 j ∧ i ≤ j ∧ j ≤ ps.length ∧ Hid (∀ (k : Nat) (q : Ist), k < i → ps[k]? = some q → Op.bytesLess q.c s = true) ∧ Hid (∀ (k : Nat) (q : Ist), j ≤ k → ps[k]? = some q → Op.bytesLess q.c s = false) ∧ Below w.heap.size w wr) (fun a b _ => (intOf b).toNat - (intOf a).toNat)
  case atStart => exact ⟨0, ps.length, rfl, rfl, by omega, by omega, Lib.hid (fun k q hk => by omega), Lib.hid (fun k q hk hq => by have := (List.getElem?_eq_some_iff.1 hq).1; omega), Below.refl _ _⟩
  case round =>
    obtain ⟨i, j, rfl, rfl, hij, hj, hlo, hhi, hb⟩ := hrel
    by_cases hlt : i < j
    · obtain ⟨m, hmm⟩ : ∃ m, m = (i + j) / 2 := ⟨_, rfl⟩
      have hmi : i ≤ m := by omega
      have hmj : m < j := by omega
      have e1 : ((i : Int) + (j : Int)) / 2 = (m : Int) := by omega
      obtain ⟨b, off, q, rfl, hl, hq, h4⟩ := (h.below hb).at (show m < ps.length by omega)
      have c0 := h4.c0; have c1 := h4.c1; have c2 := h4.c2; have c3 := h4.c3; have c4 := h4.c4
      have HC := Lib.hid (fun w => cmpCode_iM q s w)
      have hneg := ordS_negM q.c s
      have HY := Lib.hid (fun (hb : Op.bytesLess q.c s = true) (k : Nat) (p : Ist) (hk : k < m + 1) (hp : ps[k]? = some p) => (by
        rcases Nat.lt_or_ge k m with h1 | h1
        · exact HM.out k m p q h1 hp hq.out hb
        · obtain rfl : k = m := by omega
          rw [hq.out] at hp; obtain rfl := Option.some.inj hp; exact hb : Op.bytesLess p.c s = true))
      have HZ := Lib.hid (fun (hb : Op.bytesLess q.c s = false) (k : Nat) (p : Ist) (hk : m ≤ k) (hp : ps[k]? = some p) => (by
        rcases Nat.lt_or_ge m k with h1 | h1
        · cases hpb : Op.bytesLess p.c s with
          | false => rfl
          | true => have := HM.out m k q p h1 hq.out hp hpb; rw [hb] at this; cases this
        · obtain rfl : k = m := by omega
          rw [hq.out] at hp; obtain rfl := Option.some.inj hp; exact hb : Op.bytesLess p.c s = false))
      clear h4 h hq hmm HM HP HH HX
      generalize ordS q.c s = o at *
      generalize Op.bytesLess q.c s = be at *
      cases be
      · have HX : Hid (∀ (k : Nat) (p : Ist), m ≤ k → ps[k]? = some p → Op.bytesLess p.c s = false) := Lib.hid (HZ.out rfl)
        clear HY HZ
        go_wp2_with (go_at_call 92; refine (HC.out _).mono ?_; rintro e w1 ⟨rfl, b1⟩)
        go_roundw
        case rel => exact ⟨i, m, rfl, rfl, by omega, by omega, hlo, HX, belowGo hb b1⟩
        case measure => simp [intOf]; omega
      · have HX : Hid (∀ (k : Nat) (p : Ist), k < m + 1 → ps[k]? = some p → Op.bytesLess p.c s = true) := Lib.hid (HY.out rfl)
        clear HY HZ
        go_wp2_with (go_at_call 92; refine (HC.out _).mono ?_; rintro e w1 ⟨rfl, b1⟩)
        go_roundw
        case rel => exact ⟨m + 1, j, by go_num, rfl, by omega, by omega, HX, hhi, belowGo hb b1⟩
        case measure => simp [intOf]; omega
    · obtain rfl : i = j := by omega
      have hp := HP.out i hj hlo.out hhi.out
      have HE : Hid (plcM ps s = i) := Lib.hid hp
      by_cases hlen : i < ps.length
      · obtain ⟨b, off, q, rfl, hl, hq, h4⟩ := (h.below hb).at hlen
        have c0 := h4.c0; have c1 := h4.c1; have c2 := h4.c2; have c3 := h4.c3; have c4 := h4.c4
        have HC := Lib.hid (fun w => cmpCode_iM q s w)
        have HZ : Hid (hasPM ps s = (ordS q.c s == 0)) := Lib.hid (by rw [ordS_zeroM]; exact HH.out q (by rw [hp]; exact hq.out))
        clear h4 h hq HM HP HH HX hp hlo hhi
        generalize ordS q.c s = o at *
        go_wp2_with (go_at_call 92; refine (HC.out _).mono ?_; rintro e w1 ⟨rfl, b1⟩)
        go_ret2
        exact ⟨by rw [HE.out, HZ.out] <;> rfl, belowGo hb b1⟩
      · have HZ : Hid (hasPM ps s = false) := Lib.hid (HX.out (by rw [hp]; omega))
        clear h HM HP HH HX hp hlo hhi
        go_wp2_with fail
        go_ret2
        exact ⟨by rw [HE.out, HZ.out] <;> rfl, hb⟩
theorem search_iM (A : Option Addr) (c : Nat) (ps : List Ist) (s : List UInt8) (w : World) (h : IstR w A ps) (hn : ps.length ≤ 1048576) (ho : ordToM ps ps.length = true) :
    Calls Try.prog 66 #[.slice A ps.length c, .string ⟨s.toArray⟩] w (Gives w (.tuple #[.int .i64 (plcM ps s : Int), .bool (hasPM ps s)])) := by
  go_enter Try.func66, Try.ntmps66
  go_wp2_with fail
  refine (binP_iM A c ps s w h hn ho).mono ?_
  rintro e w1 ⟨rfl, b1⟩
  go_wp2_with fail
  go_ret2
  exact ⟨rfl, b1⟩
end Go.Proofs.Ytifioecofeojpaa
