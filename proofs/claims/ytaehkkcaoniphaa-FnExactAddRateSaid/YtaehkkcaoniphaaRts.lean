/- impl.areCodes, impl.ratesOn. -/
import Derived.Test.YtaehkkcaoniphaaLat
import Derived.Test.YtaehkkcaoniphaaStrs
namespace Go.Proofs.Ytaehkkcaoniphaa
open Go.ChangeShapes Go.WideShapes Go.ChangeAt Go.RowKit
set_option linter.unusedVariables false

/-! ### the book and the list -/
theorem book_some {rs : List Rt} : ∀ {x : Int × Int} {r : Rt}, bookF rs x = some r → (r ∈ rs ∧ x = (keyN r.c, r.day)) ∨ (x = (keyN xdr, 0) ∧ r = one) := by
  refine rev_ind (P := fun rs => ∀ {x : Int × Int} {r : Rt}, bookF rs x = some r → (r ∈ rs ∧ x = (keyN r.c, r.day)) ∨ (x = (keyN xdr, 0) ∧ r = one)) ?_ ?_ rs
  · intro x r h
    unfold bookF upd at h
    simp only [List.foldl_nil] at h
    split at h
    · rename_i e; exact .inr ⟨e, (Option.some.inj h).symm⟩
    · cases h
  · intro rs q ih x r h
    rw [bookF_snoc] at h
    unfold upd at h
    split at h
    · rename_i e; obtain rfl := Option.some.inj h; exact .inl ⟨by simp, e⟩
    · rcases ih h with ⟨h1, h2⟩ | h1
      · exact .inl ⟨by simp [h1], h2⟩
      · exact .inr h1
theorem upd_some {f : Int × Int → Option Rt} {x y : Int × Int} {r : Rt} (h : (f y).isSome = true) : (upd f x r y).isSome = true := by
  unfold upd; split
  · rfl
  · exact h
theorem book_has {rs : List Rt} : ∀ {r : Rt}, r ∈ rs → (bookF rs (keyN r.c, r.day)).isSome = true := by
  refine rev_ind (P := fun rs => ∀ {r : Rt}, r ∈ rs → (bookF rs (keyN r.c, r.day)).isSome = true) ?_ ?_ rs
  · intro r h; cases h
  · intro rs q ih r h
    rw [bookF_snoc]
    rcases List.mem_append.1 h with h | h
    · exact upd_some (ih h)
    · simp at h; subst h; unfold upd; rw [if_pos rfl]; rfl
theorem book_xdr (rs : List Rt) : (bookF rs (keyN xdr, 0)).isSome = true := by
  refine rev_ind (P := fun rs => (bookF rs (keyN xdr, 0)).isSome = true) ?_ ?_ rs
  · unfold bookF upd; simp
  · intro rs q ih; rw [bookF_snoc]; exact upd_some ih
theorem mem_ok {rs : List Rt} (h : tabB rs = true) {r : Rt} (hr : r ∈ rs) : r.ok = true := by
  obtain ⟨k, hk⟩ := List.getElem?_of_mem hr
  exact tab_ok h hk
theorem book_wf {rs : List Rt} (ht : tabB rs = true) (x : Int × Int) (r : Rt) (h : bookF rs x = some r) : Wf x ∧ 0 ≤ x.2 := by
  rcases book_some h with ⟨h1, rfl⟩ | ⟨rfl, _⟩
  · have := Rt.ok_iff.1 (mem_ok ht h1)
    exact ⟨wf_key this.1 (by omega) (by omega), this.2.2.1.1⟩
  · exact ⟨wf_key xdr_code (by decide) (by decide), by decide⟩
/-- A rate that holds for a currency on a day. -/
def GoodR (rs : List Rt) (day : Int) (c : List UInt8) (r : Rt) : Prop := rateL c day rs = (r.num, r.den) ∧ 1 ≤ r.num ∧ r.num ≤ 1000000 ∧ 1 ≤ r.den ∧ r.den ≤ 1000000
theorem book_latest {rs : List Rt} (ht : tabB rs = true) {c : List UInt8} (hc : codeB c = true) {day : Int} (hd : 0 ≤ day) {r : Rt} {ok : Bool} (h : Latest (bookF rs) (keyN c) day r ok) :
    (ok = true ∧ GoodR rs day c r) ∨ (ok = false ∧ rateL c day rs = (0, 0)) := by
  by_cases hx : c = xdr
  · subst hx
    have hone : ∀ g r, bookF rs (keyN xdr, g) = some r → r = one := fun g r h => by
      rcases book_some h with ⟨h1, h2⟩ | ⟨_, h1⟩
      · have := Rt.ok_iff.1 (mem_ok ht h1)
        injection h2 with h2 _
        exact absurd (keyN_inj xdr_code this.1 h2).symm this.2.1
      · exact h1
    rcases h with ⟨rfl, g, h1, _⟩ | ⟨rfl, _, h1⟩
    · left
      obtain rfl := hone _ _ h1
      exact ⟨rfl, by unfold rateL; rw [if_pos rfl]; rfl, by decide, by decide, by decide, by decide⟩
    · have := book_xdr rs
      rw [h1 0 (wf_key xdr_code (by decide) (by decide)) hd] at this
      cases this
  · have hin : ∀ g r, bookF rs (keyN c, g) = some r → r ∈ rs ∧ r.c = c ∧ r.day = g := fun g r h => by
      rcases book_some h with ⟨h1, h2⟩ | ⟨h1, _⟩
      · have := Rt.ok_iff.1 (mem_ok ht h1)
        injection h2 with h2 h3
        exact ⟨h1, (keyN_inj hc this.1 h2).symm, h3.symm⟩
      · injection h1 with h1 _
        exact absurd (keyN_inj hc xdr_code h1) hx
    have hwf : ∀ q ∈ rs, q.c = c → Wf (keyN c, q.day) := fun q hq hqc => by
      have := Rt.ok_iff.1 (mem_ok ht hq)
      exact wf_key hc (by omega) (by omega)
    rcases h with ⟨rfl, g, h1, h2, h3⟩ | ⟨rfl, _, h1⟩
    · left
      obtain ⟨m1, m2, m3⟩ := hin g r h1
      have hok := Rt.ok_iff.1 (mem_ok ht m1)
      refine ⟨rfl, ?_, hok.2.2.2.1.1, hok.2.2.2.1.2, hok.2.2.2.2.1, hok.2.2.2.2.2⟩
      unfold rateL
      rw [if_neg hx]
      cases hl : lastOn c day rs with
      | none => exact absurd ⟨m2, by omega⟩ (lastOn_none hl r m1)
      | some q =>
        obtain ⟨k, k1, k2, k3, _⟩ := lastOn_some hl
        have hq := List.mem_of_getElem? k1
        have h4 := book_has hq
        rw [k2] at h4
        have h5 := h3 q.day (hwf q hq k2) h4 k3
        rw [lastOn_max ht hl m1 m2 (by omega) (by omega)]
    · right
      refine ⟨rfl, ?_⟩
      unfold rateL
      rw [if_neg hx]
      cases hl : lastOn c day rs with
      | none => rfl
      | some q =>
        obtain ⟨k, k1, k2, k3, _⟩ := lastOn_some hl
        have hq := List.mem_of_getElem? k1
        have h4 := book_has hq
        rw [k2, h1 q.day (hwf q hq k2) k3] at h4
        cases h4

/-! ### areCodes -/
theorem codes_no {cs : List (List UInt8)} {k : Nat} {c : List UInt8} (hc : cs[k]? = some c) (h : codeB c = false) : cs.all codeB = false := by
  rw [List.all_eq_false]; exact ⟨c, List.mem_of_getElem? hc, by simp [h]⟩
set_option maxRecDepth 100000 in
set_option maxHeartbeats 2000000 in
theorem areCodes_i (A : Option Addr) (d : Nat) (cs : List (List UInt8)) (w : World) (hS : Sr w A cs) (hl : ∀ c ∈ cs, c.length ≤ 9223372036854775807) (hn : cs.length ≤ 1048576) :
    Calls Try.prog 77 #[.slice A cs.length d] w fun e w' => e = .returned (.bool (cs.all codeB)) ∧ w = w' := by
  go_enter Try.func77, Try.ntmps77
  go_wp2_with fail
  go_loop [7] (fun i => ∃ k : Nat, k ≤ cs.length ∧ i = .int .i64 k ∧ Hid ((cs.take k).all codeB = true)) (fun i => cs.length - (intOf i).toNat)
  case atStart => exact ⟨0, Nat.zero_le _, rfl, Lib.hid rfl⟩
  case round =>
    obtain ⟨k, hk, rfl, ht⟩ := hrel
    by_cases hlt : k < cs.length
    · obtain ⟨b, off, c, rfl, hb, c0, hc⟩ := hS.at hlt
      have hcl := hl c (List.mem_of_getElem? hc.out)
      rcases Bool.eq_false_or_eq_true (codeB c) with he | he
      · have HT : Hid ((cs.take (k + 1)).all codeB = true) := Lib.hid (by rw [snoc_of hc.out, List.all_append, ht.out]; simp [he])
        clear hS hc ht hl
        go_wp2_with (go_at_call 30; refine (codeI_q (by assumption) hcl _).mono ?_; rintro e w' ⟨rfl, rfl⟩)
        go_round
        case rel => exact ⟨k + 1, by omega, by go_num, HT⟩
        case measure => simp [intOf]; omega
      · have E := Lib.hid (codes_no hc.out he)
        clear hS hc ht hl
        go_wp2_with (go_at_call 30; refine (codeI_q (by assumption) hcl _).mono ?_; rintro e w' ⟨rfl, rfl⟩)
        go_ret
        exact ⟨by rw [E.out] <;> rfl, rfl⟩
    · have E : Hid (cs.all codeB = true) := Lib.hid (by have := ht.out; rwa [take_all hk hlt] at this)
      clear ht hS hl
      go_wp2_with fail
      go_ret
      exact ⟨by rw [E.out] <;> rfl, rfl⟩
theorem areCodes_q {A : Option Addr} {d : Nat} {cs : List (List UInt8)} {w : World} {b : Bool} (hb : cs.all codeB = b) (hS : Sr w A cs) (hl : ∀ c ∈ cs, c.length ≤ 9223372036854775807) (hn : cs.length ≤ 1048576) :
    Calls Try.prog 77 #[.slice A cs.length d] w fun e w' => e = .returned (.bool b) ∧ w = w' := by
  subst hb; exact areCodes_i A d cs w hS hl hn
end Go.Proofs.Ytaehkkcaoniphaa
