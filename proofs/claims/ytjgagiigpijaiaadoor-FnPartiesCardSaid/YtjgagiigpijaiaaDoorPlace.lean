/- The place of a party: impl.placeOfParty, spec.l05Code; FindParty, ActsFor, ClientsOf on both sides; cmp.Or over two texts. -/
import Derived.Test.YtjgagiigpijaiaaDoorAsc
import Derived.Test.YtjgagiigpijaiaaDoorCof
namespace Go.Proofs.YtjgagiigpijaiaaDoor
open Go.ChangeShapes Go.WideShapes Go.ChangeAt Go.RowKit
set_option linter.unusedVariables false

/-- Place and code. -/
def plcR (ps : List Pty) (s : List UInt8) : Int × Int := if regB ps = true ∧ pcode s = true then (if hasP ps s = true then ((plc ps s : Int), 0) else (0, 4)) else (0, 1)
inductive SWay (ps : List Pty) (s : List UInt8) : Int × Int → Prop where
  | reg (h : regB ps = false) : SWay ps s (0, 1)
  | code (h : regB ps = true) (h2 : pcode s = false) : SWay ps s (0, 1)
  | none (h : regB ps = true) (h2 : pcode s = true) (h3 : hasP ps s = false) (h4 : fndI ps s = -1) : SWay ps s (0, 4)
  | ok (k : Nat) (p : Pty) (h : regB ps = true) (h2 : pcode s = true) (h3 : hasP ps s = true) (h4 : fndI ps s = k) (h5 : plc ps s = k) (hk : k < ps.length) (hp : ps[k]? = some p) (hc : p.c = s) : SWay ps s ((k : Int), 0)
theorem sway (ps : List Pty) (s : List UInt8) : SWay ps s (plcR ps s) := by
  unfold plcR
  rcases Bool.eq_false_or_eq_true (regB ps) with h | h
  · rcases Bool.eq_false_or_eq_true (pcode s) with h2 | h2
    · rw [if_pos ⟨h, h2⟩]
      obtain ⟨_, ho, _⟩ := regB_iff.1 h
      cases hf : fnd ps s with
      | none =>
        have h3 : hasP ps s = false := by unfold hasP; rw [hf]; rfl
        rw [h3, if_neg Bool.false_ne_true]
        exact .none h h2 h3 (by unfold fndI; rw [hf])
      | some k =>
        have h3 : hasP ps s = true := by unfold hasP; rw [hf]; rfl
        rw [h3, if_pos rfl]
        have h5 := fnd_plc ho hf
        obtain ⟨p, hp, hc⟩ := fnd_at hf
        rw [h5]
        exact .ok k p h h2 h3 (by unfold fndI; rw [hf]) h5 (fnd_lt hf) hp hc
    · rw [if_neg (by rw [h2]; rintro ⟨_, h⟩; cases h)]; exact .code h h2
  · rw [if_neg (by rw [h]; rintro ⟨h, _⟩; cases h)]; exact .reg h
theorem errR_no {ps : List Pty} {v : Value} (h : regB ps = false) (hv : ErrR (regB ps) v) : ErrV 1 v := by
  unfold ErrR at hv; rw [h, if_neg Bool.false_ne_true] at hv; exact hv
theorem errR_yes {ps : List Pty} {v : Value} (h : regB ps = true) (hv : ErrR (regB ps) v) : v = .nilIface := by
  unfold ErrR at hv; rw [h, if_pos rfl] at hv; exact hv
/-- An error's value, in the walk's own words. -/
theorem errV_cases {n : Int} {v : Value} (h : ErrV n v) : v = .iface 99 (.int .i64 n) ∨ ∃ s : List UInt8, v = .iface 109 (.agg #[.string ⟨s.toArray⟩, .iface 99 (.int .i64 n)]) := h
/-- What placeOfParty gives. -/
def PlcRes (w : World) (r : Int × Int) (e : Ending) (w' : World) : Prop :=
  ∃ v, e = .returned (.tuple #[.int .i64 r.1, v]) ∧ ((r.2 = 0 ∧ v = .nilIface) ∨ (r.2 ≠ 0 ∧ ErrV r.2 v)) ∧ Below w.heap.size w w'
set_option maxHeartbeats 1000000 in
theorem place_i (A : Option Addr) (c : Nat) (ps : List Pty) (s : List UInt8) (w : World) (h : PTbl w A ps) (hs : s.length ≤ 9223372036854775807) :
    Calls Tryd.prog 49 #[.slice A ps.length c, .string ⟨s.toArray⟩] w (PlcRes w (plcR ps s)) := by
  have W := sway ps s
  generalize plcR ps s = r at W ⊢
  have HC := Lib.hid (check_i A c ps w h)
  have hn := h.len
  cases W with
  | reg h0 =>
    go_enter Tryd.func49, Tryd.ntmps49
    go_wp2_with fail
    refine HC.out.mono ?_
    rintro e w1 ⟨v, rfl, hv, b1⟩
    have hv1 := errR_no h0 hv
    rcases errV_cases hv1 with rfl | ⟨t, rfl⟩
    all_goals
      go_wp2_with fail
      go_ret2
      exact ⟨_, rfl, .inr ⟨by decide, hv1⟩, b1⟩
  | code h0 h2 =>
    have HE := Lib.hid (fun w => errorAbout_i s 1 w)
    go_enter Tryd.func49, Tryd.ntmps49
    go_wp2_with fail
    refine HC.out.mono ?_
    rintro e w1 ⟨v, rfl, hv, b1⟩
    obtain rfl := errR_yes h0 hv
    clear hv
    go_wp2_with (first
      | (go_at_call 45; refine (pcodeI_q h2 hs _).mono ?_; rintro e w' ⟨rfl, rfl⟩)
      | (go_at_call 76; refine (HE.out _).mono ?_; rintro e w' ⟨rfl, rfl⟩))
    go_ret2
    exact ⟨_, rfl, .inr ⟨by decide, .inr ⟨_, rfl⟩⟩, b1⟩
  | none h0 h2 h3 h4 =>
    have HE := Lib.hid (fun w => errorAbout_i s 4 w)
    have HS := Lib.hid (fun w1 (b1 : Below w.heap.size w w1) => search_i A c ps s w1 (h.below b1).row (by omega) (regB_iff.1 h0).2.1)
    rw [h3] at HS
    generalize plc ps s = k at HS
    go_enter Tryd.func49, Tryd.ntmps49
    go_wp2_with fail
    refine HC.out.mono ?_
    rintro e w1 ⟨v, rfl, hv, b1⟩
    obtain rfl := errR_yes h0 hv
    clear hv
    go_wp2_with (first
      | (go_at_call 45; refine (pcodeI_q h2 hs _).mono ?_; rintro e w' ⟨rfl, rfl⟩)
      | (go_at_call 77; refine (HS.out _ b1).mono ?_; rintro e w2 ⟨rfl, b2⟩)
      | (go_at_call 76; refine (HE.out _).mono ?_; rintro e w' ⟨rfl, rfl⟩))
    go_ret2
    exact ⟨_, rfl, .inr ⟨by decide, .inr ⟨_, rfl⟩⟩, belowGo b1 b2⟩
  | ok k p h0 h2 h3 h4 h5 hk hp hc =>
    have HS := Lib.hid (fun w1 (b1 : Below w.heap.size w w1) => search_i A c ps s w1 (h.below b1).row (by omega) (regB_iff.1 h0).2.1)
    rw [h3, h5] at HS
    clear h4 h5 hp hc h3
    go_enter Tryd.func49, Tryd.ntmps49
    go_wp2_with fail
    refine HC.out.mono ?_
    rintro e w1 ⟨v, rfl, hv, b1⟩
    obtain rfl := errR_yes h0 hv
    clear hv
    go_wp2_with (first
      | (go_at_call 45; refine (pcodeI_q h2 hs _).mono ?_; rintro e w' ⟨rfl, rfl⟩)
      | (go_at_call 77; refine (HS.out _ b1).mono ?_; rintro e w2 ⟨rfl, b2⟩))
    go_ret2
    exact ⟨_, rfl, .inl ⟨rfl, rfl⟩, belowGo b1 b2⟩
set_option maxHeartbeats 1000000 in
theorem code_s (A : Option Addr) (c : Nat) (ps : List Pty) (s : List UInt8) (w : World) (h : PTbl w A ps) (hs : s.length ≤ 9223372036854775807) :
    Calls Tryd.prog 47 #[.slice A ps.length c, .string ⟨s.toArray⟩] w (Gives w (.int .i64 (plcR ps s).2)) := by
  have W := sway ps s
  generalize plcR ps s = r at W ⊢
  have hn := h.len
  have HF := Lib.hid (fun w1 (b1 : Below w.heap.size w w1) => find_s A c ps s w1 (h.below b1).row (by omega))
  cases W with
  | reg h0 =>
    go_enter Tryd.func47, Tryd.ntmps47
    go_wp2_with (go_at_call 51; refine (isRegS_q h h0).mono ?_; rintro e w1 ⟨rfl, b1⟩)
    go_ret
    exact ⟨rfl, b1⟩
  | code h0 h2 =>
    go_enter Tryd.func47, Tryd.ntmps47
    go_wp2_with (first
      | (go_at_call 51; refine (isRegS_q h h0).mono ?_; rintro e w1 ⟨rfl, b1⟩)
      | (go_at_call 46; refine (pcodeS_q h2 hs _).mono ?_; rintro e w' ⟨rfl, rfl⟩))
    go_ret
    exact ⟨rfl, b1⟩
  | none h0 h2 h3 h4 =>
    rw [h4] at HF
    go_enter Tryd.func47, Tryd.ntmps47
    go_wp2_with (first
      | (go_at_call 51; refine (isRegS_q h h0).mono ?_; rintro e w1 ⟨rfl, b1⟩)
      | (go_at_call 46; refine (pcodeS_q h2 hs _).mono ?_; rintro e w' ⟨rfl, rfl⟩)
      | (go_at_call 48; refine (HF.out _ b1).mono ?_; rintro e w' ⟨rfl, rfl⟩))
    go_ret
    exact ⟨rfl, b1⟩
  | ok k p h0 h2 h3 h4 h5 hk hp hc =>
    rw [h4] at HF
    clear hp hc h5 h4
    go_enter Tryd.func47, Tryd.ntmps47
    go_wp2_with (first
      | (go_at_call 51; refine (isRegS_q h h0).mono ?_; rintro e w1 ⟨rfl, b1⟩)
      | (go_at_call 46; refine (pcodeS_q h2 hs _).mono ?_; rintro e w' ⟨rfl, rfl⟩)
      | (go_at_call 48; refine (HF.out _ b1).mono ?_; rintro e w' ⟨rfl, rfl⟩))
    go_ret
    exact ⟨rfl, b1⟩
/-- A code for the value of an error or nil. -/
theorem codeOf_any {r : Int × Int} {v : Value} (hv : (r.2 = 0 ∧ v = .nilIface) ∨ (r.2 ≠ 0 ∧ ErrV r.2 v)) (w : World) (hg : Ety w) : Calls Tryd.prog 50 #[v] w (Gives w (.int .i64 r.2)) := by
  rcases hv with ⟨h1, rfl⟩ | ⟨_, h⟩
  · rw [h1]; exact codeOf_nil w
  · exact codeOf_err _ v w h hg
/-! ### FindParty -/
theorem findp_i (A : Option Addr) (c : Nat) (ps : List Pty) (s : List UInt8) (w : World) (h : PTbl w A ps) (hs : s.length ≤ 9223372036854775807) (hg : Ety w) :
    Calls Tryd.prog 14 #[.slice A ps.length c, .string ⟨s.toArray⟩] w (Gives w (.tuple #[.int .i64 (plcR ps s).1, .int .i64 (plcR ps s).2])) := by
  have HP := Lib.hid (place_i A c ps s w h hs)
  generalize plcR ps s = r at *
  go_enter Tryd.func14, Tryd.ntmps14
  go_wp2_with fail
  refine HP.out.mono ?_
  rintro e w1 ⟨v, rfl, hv, b1⟩
  go_wp2_with fail
  refine (codeOf_any hv w1 (hg.below b1)).mono ?_
  rintro e w2 ⟨rfl, b2⟩
  go_wp2_with fail
  go_ret2
  exact ⟨rfl, belowGo b1 b2⟩
theorem findp_s (A : Option Addr) (c : Nat) (ps : List Pty) (s : List UInt8) (w : World) (h : PTbl w A ps) (hs : s.length ≤ 9223372036854775807) :
    Calls Tryd.prog 12 #[.slice A ps.length c, .string ⟨s.toArray⟩] w (Gives w (.tuple #[.int .i64 (plcR ps s).1, .int .i64 (plcR ps s).2])) := by
  have HC := Lib.hid (code_s A c ps s w h hs)
  have hn := h.len
  have HF := Lib.hid (fun w1 (b1 : Below w.heap.size w w1) => find_s A c ps s w1 (h.below b1).row (by omega))
  have W := sway ps s
  generalize plcR ps s = r at *
  cases W with
  | ok k p h0 h2 h3 h4 h5 hk hp hc =>
    rw [h4] at HF
    clear h4 h5 hp hc
    go_enter Tryd.func12, Tryd.ntmps12
    go_wp2_with (first
      | (go_at_call 47; refine HC.out.mono ?_; rintro e w1 ⟨rfl, b1⟩)
      | (go_at_call 48; refine (HF.out _ b1).mono ?_; rintro e w' ⟨rfl, rfl⟩))
    go_ret2
    exact ⟨rfl, b1⟩
  | _ =>
    go_enter Tryd.func12, Tryd.ntmps12
    go_wp2_with (go_at_call 47; refine HC.out.mono ?_; rintro e w1 ⟨rfl, b1⟩)
    go_ret2
    exact ⟨rfl, b1⟩
/-! ### ActsFor -/
def orS (a b : List UInt8) : List UInt8 := if (a == []) = true then b else a
theorem orS_i (a b : List UInt8) (w : World) : Calls Tryd.prog 56 #[.slice (some ⟨w.heap.size, 0, none⟩) 2 2] (w.alloc (.cells #[.string ⟨a.toArray⟩, .string ⟨b.toArray⟩] 9)) fun e w' => e = .returned (.string ⟨(orS a b).toArray⟩) ∧ w.alloc (.cells #[.string ⟨a.toArray⟩, .string ⟨b.toArray⟩] 9) = w' := by
  rcases Bool.eq_false_or_eq_true (a == []) with ha | ha
  · have E : Hid (orS a b = b) := Lib.hid (by rw [orS, if_pos ha])
    have ha2 : (a != []) = false := by simpa using ha
    rcases Bool.eq_false_or_eq_true (b == []) with hb | hb
    · have hb2 : (b != []) = false := by simpa using hb
      have E : Hid (orS a b = []) := Lib.hid (by rw [E.out]; simpa using hb)
      go_enter Tryd.func56, Tryd.ntmps56
      go_wp2_with fail
      go_loop [8, 5] (fun i v => ∃ k : Nat, k ≤ 2 ∧ i = .int .i64 k) (fun i _ => 2 - (intOf i).toNat)
      case atStart => exact ⟨0, by omega, rfl⟩
      case round =>
        obtain ⟨k, hk, rfl⟩ := hrel
        rcases (by omega : k = 0 ∨ k = 1 ∨ k = 2) with rfl | rfl | rfl
        · go_wp2_with fail
          go_round
          case rel => exact ⟨1, by omega, rfl⟩
          case measure => simp [intOf]
        · go_wp2_with fail
          go_round
          case rel => exact ⟨2, by omega, rfl⟩
          case measure => simp [intOf]
        · go_wp2_with fail
          go_ret
          exact ⟨by rw [E.out] <;> rfl, rfl⟩
    · have hb2 : (b != []) = true := by simpa using hb
      go_enter Tryd.func56, Tryd.ntmps56
      go_wp2_with fail
      go_loop [8, 5] (fun i v => ∃ k : Nat, k ≤ 1 ∧ i = .int .i64 k) (fun i _ => 2 - (intOf i).toNat)
      case atStart => exact ⟨0, by omega, rfl⟩
      case round =>
        obtain ⟨k, hk, rfl⟩ := hrel
        rcases (by omega : k = 0 ∨ k = 1) with rfl | rfl
        · go_wp2_with fail
          go_round
          case rel => exact ⟨1, by omega, rfl⟩
          case measure => simp [intOf]
        · go_wp2_with fail
          go_ret
          exact ⟨by rw [E.out] <;> rfl, rfl⟩
  · have E : Hid (orS a b = a) := Lib.hid (by rw [orS, if_neg (by rw [ha]; exact Bool.false_ne_true)])
    have ha2 : (a != []) = true := by simpa using ha
    go_enter Tryd.func56, Tryd.ntmps56
    go_wp2_with fail
    go_loop [8, 5] (fun i v => i = .int .i64 0) (fun i _ => 2 - (intOf i).toNat)
    case atStart => rfl
    case round =>
      obtain rfl := hrel
      go_wp2_with fail
      go_ret
      exact ⟨by rw [E.out] <;> rfl, rfl⟩
def actR (ps : List Pty) (s : List UInt8) : List UInt8 × Int :=
  if (plcR ps s).2 = 0 then (match ps[(plcR ps s).1.toNat]? with | none => s | some p => orS p.a s, 0) else ([], (plcR ps s).2)
theorem actR_ok {ps : List Pty} {s : List UInt8} {k : Nat} {p : Pty} (h : plcR ps s = ((k : Int), 0)) (hp : ps[k]? = some p) : actR ps s = (orS p.a s, 0) := by
  unfold actR; rw [h, if_pos rfl]; simp [hp]
theorem actR_no {ps : List Pty} {s : List UInt8} {n : Int} (h : plcR ps s = (0, n)) (hn : n ≠ 0) : actR ps s = ([], n) := by
  unfold actR; rw [h, if_neg hn]
set_option maxHeartbeats 1000000 in
theorem acts_i (A : Option Addr) (c : Nat) (ps : List Pty) (s : List UInt8) (w : World) (h : PTbl w A ps) (hs : s.length ≤ 9223372036854775807) (hg : Ety w) :
    Calls Tryd.prog 23 #[.slice A ps.length c, .string ⟨s.toArray⟩] w (Gives w (.tuple #[.string ⟨(actR ps s).1.toArray⟩, .int .i64 (actR ps s).2])) := by
  have HP := Lib.hid (place_i A c ps s w h hs)
  have W := sway ps s
  have HO := Lib.hid (fun k p => @actR_ok ps s k p)
  have HN := Lib.hid (fun n => @actR_no ps s n)
  have h1 := h.row
  clear h
  generalize plcR ps s = r at *
  cases W with
  | ok k p h0 h2 h3 h4 h5 hk hp hc =>
    have E := Lib.hid (HO.out k p rfl hp)
    have hp := Lib.hid hp
    have HQ := Lib.hid (fun a b w => orS_i a b w)
    clear HO HN h3 h4 h5 hc
    generalize actR ps s = q at *
    go_enter Tryd.func23, Tryd.ntmps23
    go_wp2_with fail
    refine HP.out.mono ?_
    rintro e w1 ⟨v, rfl, hv, b1⟩
    have hv0 : v = .nilIface := by
      rcases hv with ⟨_, hv⟩ | ⟨hv, _⟩
      · exact hv
      · exact absurd rfl hv
    subst hv0
    obtain ⟨b, off, p', rfl, hl, hp', hp4⟩ := (h1.below b1).at hk
    obtain rfl : p = p' := by have h1 := hp.out; have h2 := hp'.out; rw [h1] at h2; exact Option.some.inj h2
    have c0 := hp4.c0; have c1 := hp4.c1; have c2 := hp4.c2
    clear h1 hp hp' hp4 hv
    have B := fun o => Lib.hid ((Below.refl w1.heap.size w1).alloc (Nat.le_refl _) o)
    go_wp2_with fail
    refine (HQ.out _ _ _).mono ?_
    rintro e w2 ⟨rfl, rfl⟩
    go_wp2_with fail
    go_ret2
    exact ⟨by rw [E.out] <;> rfl, belowGo b1 (B _).out⟩
  | reg h0 =>
    have E := Lib.hid (HN.out 1 rfl (by decide))
    clear HO HN
    generalize actR ps s = q at *
    go_enter Tryd.func23, Tryd.ntmps23
    go_wp2_with fail
    refine HP.out.mono ?_
    rintro e w1 ⟨v, rfl, hv, b1⟩
    have hv1 : ErrV 1 v := by
      rcases hv with ⟨hv, _⟩ | ⟨_, hv⟩
      · exact absurd hv (by decide)
      · exact hv
    have HC := Lib.hid (codeOf_err 1 v w1 hv1 (hg.below b1))
    clear hv
    rcases errV_cases hv1 with rfl | ⟨t, rfl⟩
    all_goals
      go_wp2_with (go_at_call 50; refine HC.out.mono ?_; rintro e w2 ⟨rfl, b2⟩)
      go_ret2
      exact ⟨by rw [E.out] <;> rfl, belowGo b1 b2⟩
  | code h0 h2 =>
    have E := Lib.hid (HN.out 1 rfl (by decide))
    clear HO HN
    generalize actR ps s = q at *
    go_enter Tryd.func23, Tryd.ntmps23
    go_wp2_with fail
    refine HP.out.mono ?_
    rintro e w1 ⟨v, rfl, hv, b1⟩
    have hv1 : ErrV 1 v := by
      rcases hv with ⟨hv, _⟩ | ⟨_, hv⟩
      · exact absurd hv (by decide)
      · exact hv
    have HC := Lib.hid (codeOf_err 1 v w1 hv1 (hg.below b1))
    clear hv
    rcases errV_cases hv1 with rfl | ⟨t, rfl⟩
    all_goals
      go_wp2_with (go_at_call 50; refine HC.out.mono ?_; rintro e w2 ⟨rfl, b2⟩)
      go_ret2
      exact ⟨by rw [E.out] <;> rfl, belowGo b1 b2⟩
  | none h0 h2 h3 h4 =>
    have E := Lib.hid (HN.out 4 rfl (by decide))
    clear HO HN
    generalize actR ps s = q at *
    go_enter Tryd.func23, Tryd.ntmps23
    go_wp2_with fail
    refine HP.out.mono ?_
    rintro e w1 ⟨v, rfl, hv, b1⟩
    have hv1 : ErrV 4 v := by
      rcases hv with ⟨hv, _⟩ | ⟨_, hv⟩
      · exact absurd hv (by decide)
      · exact hv
    have HC := Lib.hid (codeOf_err 4 v w1 hv1 (hg.below b1))
    clear hv
    rcases errV_cases hv1 with rfl | ⟨t, rfl⟩
    all_goals
      go_wp2_with (go_at_call 50; refine HC.out.mono ?_; rintro e w2 ⟨rfl, b2⟩)
      go_ret2
      exact ⟨by rw [E.out] <;> rfl, belowGo b1 b2⟩
set_option maxHeartbeats 1000000 in
theorem actsL_s (A : Option Addr) (c : Nat) (ps : List Pty) (s : List UInt8) (k : Nat) (p : Pty) (w : World) (hR : PtyR w A ps) (hn : ps.length ≤ 1048576) (h4 : fndI ps s = k) (hk : k < ps.length) (hp : ps[k]? = some p) :
    Calls Tryd.prog 55 #[.slice A ps.length c, .string ⟨s.toArray⟩] w fun e w' => e = .returned (.string ⟨(orS p.a s).toArray⟩) ∧ w = w' := by
  have HF := Lib.hid (find_s A c ps s w hR (by omega))
  rw [h4] at HF
  obtain ⟨b, off, p', rfl, hl, hp', hp4⟩ := hR.at hk
  obtain rfl : p = p' := by have h2 := hp'.out; rw [hp] at h2; exact Option.some.inj h2
  have c0 := hp4.c0; have c1 := hp4.c1; have c2 := hp4.c2
  clear hR hp hp' hp4 h4
  rcases Bool.eq_false_or_eq_true (p.a == []) with ha | ha
  · have E : Hid (orS p.a s = s) := Lib.hid (by rw [orS, if_pos ha])
    have ha2 : (p.a != []) = false := by simpa using ha
    go_enter Tryd.func55, Tryd.ntmps55
    go_wp2_with (go_at_call 48; refine HF.out.mono ?_; rintro e w' ⟨rfl, rfl⟩)
    go_ret
    exact ⟨by rw [E.out] <;> rfl, rfl⟩
  · have E : Hid (orS p.a s = p.a) := Lib.hid (by rw [orS, if_neg (by rw [ha]; exact Bool.false_ne_true)])
    have ha2 : (p.a != []) = true := by simpa using ha
    go_enter Tryd.func55, Tryd.ntmps55
    go_wp2_with (go_at_call 48; refine HF.out.mono ?_; rintro e w' ⟨rfl, rfl⟩)
    go_ret
    exact ⟨by rw [E.out] <;> rfl, rfl⟩
theorem acts_s (A : Option Addr) (c : Nat) (ps : List Pty) (s : List UInt8) (w : World) (h : PTbl w A ps) (hs : s.length ≤ 9223372036854775807) :
    Calls Tryd.prog 22 #[.slice A ps.length c, .string ⟨s.toArray⟩] w (Gives w (.tuple #[.string ⟨(actR ps s).1.toArray⟩, .int .i64 (actR ps s).2])) := by
  have HC := Lib.hid (code_s A c ps s w h hs)
  have W := sway ps s
  have HO := Lib.hid (fun k p => @actR_ok ps s k p)
  have HN := Lib.hid (fun n => @actR_no ps s n)
  have hn := h.len
  have HL := Lib.hid (fun k p w1 (b1 : Below w.heap.size w w1) h4 hk hp => actsL_s A c ps s k p w1 (h.below b1).row hn h4 hk hp)
  generalize plcR ps s = r at *
  cases W with
  | ok k p h0 h2 h3 h4 h5 hk hp hc =>
    have E := Lib.hid (HO.out k p rfl hp)
    have HL2 := Lib.hid (fun w1 b1 => HL.out k p w1 b1 h4 hk hp)
    clear HO HN HL h3 h4 h5 hc hp
    generalize actR ps s = q at *
    go_enter Tryd.func22, Tryd.ntmps22
    go_wp2_with (first
      | (go_at_call 47; refine HC.out.mono ?_; rintro e w1 ⟨rfl, b1⟩)
      | (go_at_call 55; refine (HL2.out _ b1).mono ?_; rintro e w' ⟨rfl, rfl⟩))
    go_ret2
    exact ⟨by rw [E.out] <;> rfl, b1⟩
  | reg h0 =>
    have E := Lib.hid (HN.out 1 rfl (by decide))
    clear HO HN HL
    generalize actR ps s = q at *
    go_enter Tryd.func22, Tryd.ntmps22
    go_wp2_with (go_at_call 47; refine HC.out.mono ?_; rintro e w1 ⟨rfl, b1⟩)
    go_ret2
    exact ⟨by rw [E.out] <;> rfl, b1⟩
  | code h0 h2 =>
    have E := Lib.hid (HN.out 1 rfl (by decide))
    clear HO HN HL
    generalize actR ps s = q at *
    go_enter Tryd.func22, Tryd.ntmps22
    go_wp2_with (go_at_call 47; refine HC.out.mono ?_; rintro e w1 ⟨rfl, b1⟩)
    go_ret2
    exact ⟨by rw [E.out] <;> rfl, b1⟩
  | none h0 h2 h3 h4 =>
    have E := Lib.hid (HN.out 4 rfl (by decide))
    clear HO HN HL h4
    generalize actR ps s = q at *
    go_enter Tryd.func22, Tryd.ntmps22
    go_wp2_with (go_at_call 47; refine HC.out.mono ?_; rintro e w1 ⟨rfl, b1⟩)
    go_ret2
    exact ⟨by rw [E.out] <;> rfl, b1⟩
end Go.Proofs.YtjgagiigpijaiaaDoor
