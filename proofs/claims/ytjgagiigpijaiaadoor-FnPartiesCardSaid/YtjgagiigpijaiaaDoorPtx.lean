/- Texts of parties: spec.l05Text, spec.PartyText. -/
import Derived.Test.YtjgagiigpijaiaaDoorTwo
import Derived.Test.YtjgagiigpijaiaaDoorPlace
namespace Go.Proofs.YtjgagiigpijaiaaDoor
open Go.ChangeShapes Go.WideShapes Go.ChangeAt Go.RowKit
set_option linter.unusedVariables false

def ptext (p : Pty) : List UInt8 := p.c ++ 47 :: (Lib.decDigits p.k.toNat ++ 47 :: orS p.a [45])
def ptR (p : Pty) : List UInt8 × Int := if p.ok = true then (ptext p, 0) else ([], 1)
theorem ptR_ok {p : Pty} (h : p.ok = true) : ptR p = (ptext p, 0) := by unfold ptR; rw [if_pos h]
theorem ptR_no {p : Pty} (h : p.ok = false) : ptR p = ([], 1) := by unfold ptR; rw [if_neg (by rw [h]; exact Bool.false_ne_true)]
theorem pok {p : Pty} (h : p.ok = true) : pcode p.c = true ∧ (0 ≤ p.k ∧ p.k ≤ 4) ∧ (p.a = [] ∨ (pcode p.a = true ∧ p.a ≠ p.c)) := by
  unfold Pty.ok at h
  simp only [Bool.and_eq_true, Bool.or_eq_true, beq_iff_eq, Bool.not_eq_true', beq_eq_false_iff_ne] at h
  exact ⟨h.1.1, inr_iff.1 h.1.2, h.2⟩
theorem ptext_str (c d a : List UInt8) : (⟨c.toArray⟩ ++ ⟨#[47]⟩ ++ ⟨d.toArray⟩ ++ ⟨#[47]⟩ ++ ⟨a.toArray⟩ : ByteArray) = ⟨(c ++ 47 :: (d ++ 47 :: a)).toArray⟩ := by
  apply ByteArray.ext; simp [ByteArray.data_append]
theorem orS_len {a : List UInt8} (h : a.length ≤ 6) : (orS a [45]).length ≤ 6 := by
  unfold orS; split
  · simp
  · exact h
set_option maxRecDepth 100000 in
set_option maxHeartbeats 4000000 in
theorem ltext5_s (p : Pty) (w : World) (hp : p.ok = true) :
    Calls Tryd.prog 59 #[.agg #[.string ⟨p.c.toArray⟩, .int .i64 p.k, .string ⟨p.a.toArray⟩]] w (Gives1 w (ptext p)) := by
  obtain ⟨hc, ⟨hk0, hk4⟩, ha⟩ := pok hp
  have lc : p.c.length ≤ 6 := (pcode_iff.1 hc).1.2
  have la : p.a.length ≤ 6 := by
    rcases ha with h | ⟨h, _⟩
    · rw [h]; simp
    · exact (pcode_iff.1 h).1.2
  have k0 := (KeepP.new w p).drew
  have kb := KeepP.new w p
  have ES := Lib.hid (ptext_str p.c (Lib.decDigits p.k.toNat) (orS p.a [45]))
  have ET : Hid (ptext p = p.c ++ 47 :: (Lib.decDigits p.k.toNat ++ 47 :: orS p.a [45])) := Lib.hid rfl
  obtain ⟨n, hn⟩ := Int.eq_ofNat_of_zero_le hk0
  rw [hn, Int.toNat_natCast] at ES ET
  rw [hn] at k0
  have HD := Lib.hid (fun y : Sub (KeepP w p) => (dec_any 18 n y.w (by omega) (by omega)).mono fun e w' h => (⟨h.1, ⟨w', y.h.step h.2⟩, rfl⟩ : e = .returned (.string ⟨(Lib.decDigits n).toArray⟩) ∧ ∃ z : Sub (KeepP w p), w' = z.w))
  have ld : (Lib.decDigits n).length ≤ 19 := dec_len 18 n (by omega)
  generalize Lib.decDigits n = D at *
  generalize ptext p = T at *
  have q0 : ∀ y : Sub (KeepP w p), y.w.cell? ⟨w.heap.size, 0, none⟩ = some (.string ⟨p.c.toArray⟩) := fun y => y.h.cells.c0
  have q1 : ∀ y : Sub (KeepP w p), y.w.cell? ⟨w.heap.size, 1, none⟩ = some (.int .i64 n) := fun y => by rw [← hn]; exact y.h.cells.c1
  have q2 : ∀ y : Sub (KeepP w p), y.w.cell? ⟨w.heap.size, 2, none⟩ = some (.string ⟨p.a.toArray⟩) := fun y => y.h.cells.c2
  have c2 := kb.cells.c2
  have HB := Lib.hid (fun y : Sub (KeepP w p) => y.h.bel)
  have g1 : ¬9223372036854775807 < p.c.length + 1 := by omega
  have g2 : ¬9223372036854775807 < p.c.length + 1 + D.length := by omega
  have g3 : ¬9223372036854775807 < p.c.length + 1 + D.length + 1 := by omega
  have g4 : ¬9223372036854775807 < p.c.length + 1 + D.length + 1 + p.a.length := by omega
  have g5 : ¬9223372036854775807 < p.c.length + 1 + D.length + 1 + 1 := by omega
  have g6 : ¬9223372036854775807 < p.c.length + 1 + D.length + 2 := by omega
  clear kb
  rcases Bool.eq_false_or_eq_true (p.a == []) with he | he
  · have EA : Hid (orS p.a [45] = [45]) := Lib.hid (by rw [orS, if_pos he])
    rw [EA.out] at ES ET
    go_enter Tryd.func59, Tryd.ntmps59
    go_wp2_with fail
    refine region_held (KeepP w p) (by kernel_rfl) (by kernel_rfl) k0 ?_
    repeat (go_big_quiet_step ((first | rfl | (go_at_call 80; exact HD.out _))))
    refine wpQuiet_nil ?_
    rintro _ ⟨y, rfl⟩
    go_wp2_with fail
    go_ret
    exact ⟨by rw [ET.out, ← ES.out] <;> rfl, HB.out y⟩
  · have EA : Hid (orS p.a [45] = p.a) := Lib.hid (by rw [orS, if_neg (by rw [he]; exact Bool.false_ne_true)])
    rw [EA.out] at ES ET
    go_enter Tryd.func59, Tryd.ntmps59
    go_wp2_with fail
    refine region_held (KeepP w p) (by kernel_rfl) (by kernel_rfl) k0 ?_
    repeat (go_big_quiet_step ((first | rfl | (go_at_call 80; exact HD.out _))))
    refine wpQuiet_nil ?_
    rintro _ ⟨y, rfl⟩
    go_wp2_with fail
    go_ret
    exact ⟨by rw [ET.out, ← ES.out] <;> rfl, HB.out y⟩
theorem ptext_s (p : Pty) (w : World) (hs : p.sz ≤ 1048576) :
    Calls Tryd.prog 29 #[.agg #[.string ⟨p.c.toArray⟩, .int .i64 p.k, .string ⟨p.a.toArray⟩]] w (Text2 w (ptR p)) := by
  obtain ⟨hxc, hxa⟩ := sz_c hs
  have kb := KeepP.new w p
  have c0 := kb.cells.c0; have c1 := kb.cells.c1; have c2 := kb.cells.c2
  have HV := Lib.hid (fun w => pvalid_s p w hxc hxa)
  rcases Bool.eq_false_or_eq_true p.ok with hv | hv
  · have E := Lib.hid (ptR_ok hv)
    have HT := Lib.hid (fun w => ltext5_s p w hv)
    rw [hv] at HV
    generalize ptR p = r at *
    go_enter Tryd.func29, Tryd.ntmps29
    go_wp2_with (first
      | (go_at_call 52; refine (HV.out _).mono ?_; rintro e w2 ⟨rfl, b2⟩; have kb2 := kb.step b2; have c0 := kb2.cells.c0; have c1 := kb2.cells.c1; have c2 := kb2.cells.c2)
      | (go_at_call 59; refine (HT.out _).mono ?_; rintro e w3 ⟨rfl, b3⟩))
    go_ret2
    exact ⟨by rw [E.out] <;> rfl, belowGo kb2.bel b3⟩
  · have E := Lib.hid (ptR_no hv)
    rw [hv] at HV
    generalize ptR p = r at *
    go_enter Tryd.func29, Tryd.ntmps29
    go_wp2_with (go_at_call 52; refine (HV.out _).mono ?_; rintro e w2 ⟨rfl, b2⟩; have kb2 := kb.step b2)
    go_ret2
    exact ⟨by rw [E.out] <;> rfl, kb2.bel⟩
end Go.Proofs.YtjgagiigpijaiaaDoor
