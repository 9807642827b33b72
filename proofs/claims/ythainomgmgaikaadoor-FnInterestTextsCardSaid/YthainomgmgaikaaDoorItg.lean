/- spec.l06Text of interests that a manifest may hold. -/
import Derived.Test.YthainomgmgaikaaDoorIty
namespace Go.Proofs.YthainomgmgaikaaDoor
open Go.ChangeShapes Go.WideShapes Go.ChangeAt Go.RowKit
set_option linter.unusedVariables false

set_option maxRecDepth 100000 in
set_option maxHeartbeats 8000000 in
theorem ltext6_g (p : Ist) (w : World) (lc : p.c.length ≤ 7) (lo : p.o.length ≤ 7) (hk0 : 0 ≤ p.k) (hk3 : p.k ≤ 3) (hv : isVal p.v = true) (lm : (money p.v).length ≤ 30) (ha0 : 0 ≤ p.a) (ha1 : p.a ≤ 60) :
    Calls Tryd.prog 23 #[.agg #[.string ⟨p.c.toArray⟩, .int .i64 p.k, .string ⟨p.o.toArray⟩, .int .i64 p.v, .int .i64 p.a]] w (Gives1 w (itext p)) := by
  have k0 := (KeepI.new w p).drew
  have ES := Lib.hid (itext_str p.c (Lib.decDigits p.k.toNat) p.o (money p.v) (Lib.decDigits p.a.toNat))
  have ET : Hid (itext p = p.c ++ 47 :: (Lib.decDigits p.k.toNat ++ 47 :: (p.o ++ 47 :: (money p.v ++ 47 :: Lib.decDigits p.a.toNat)))) := Lib.hid rfl
  have HM := Lib.hid (fun y : Sub (KeepI w p) => (money_s p.v hv y.w).mono fun e w' h => (⟨h.1, ⟨w', y.h.step h.2⟩, rfl⟩ : e = .returned (.string ⟨(money p.v).toArray⟩) ∧ ∃ z : Sub (KeepI w p), w' = z.w))
  obtain ⟨n, hn⟩ := Int.eq_ofNat_of_zero_le hk0
  obtain ⟨m, hm⟩ := Int.eq_ofNat_of_zero_le ha0
  rw [hn, Int.toNat_natCast] at ES ET
  rw [hm, Int.toNat_natCast] at ES ET
  have HD := Lib.hid (fun (n : Nat) (h : n ≤ 100) (y : Sub (KeepI w p)) => (dec_any 18 n y.w (by omega) (by omega)).mono fun e w' h => (⟨h.1, ⟨w', y.h.step h.2⟩, rfl⟩ : e = .returned (.string ⟨(Lib.decDigits n).toArray⟩) ∧ ∃ z : Sub (KeepI w p), w' = z.w))
  have hn100 : n ≤ 100 := by omega
  have hm100 : m ≤ 100 := by omega
  have ld : (Lib.decDigits n).length ≤ 19 := dec_len 18 n (by omega)
  have le : (Lib.decDigits m).length ≤ 19 := dec_len 18 m (by omega)
  generalize Lib.decDigits = dd at *
  generalize money p.v = M at *
  generalize itext p = T at *
  have q0 : ∀ y : Sub (KeepI w p), y.w.cell? ⟨w.heap.size, 0, none⟩ = some (.string ⟨p.c.toArray⟩) := fun y => y.h.cells.c0
  have q1 : ∀ y : Sub (KeepI w p), y.w.cell? ⟨w.heap.size, 1, none⟩ = some (.int .i64 n) := fun y => by rw [← hn]; exact y.h.cells.c1
  have q2 : ∀ y : Sub (KeepI w p), y.w.cell? ⟨w.heap.size, 2, none⟩ = some (.string ⟨p.o.toArray⟩) := fun y => y.h.cells.c2
  have q3 : ∀ y : Sub (KeepI w p), y.w.cell? ⟨w.heap.size, 3, none⟩ = some (.int .i64 p.v) := fun y => y.h.cells.c3
  have q4 : ∀ y : Sub (KeepI w p), y.w.cell? ⟨w.heap.size, 4, none⟩ = some (.int .i64 m) := fun y => by rw [← hm]; exact y.h.cells.c4
  have HB := Lib.hid (fun y : Sub (KeepI w p) => y.h.bel)
  have k0' : KeepI w p (w.alloc (.cells #[.string ⟨p.c.toArray⟩, .int .i64 n, .string ⟨p.o.toArray⟩, .int .i64 p.v, .int .i64 m] 25)).drew := by rw [← hn, ← hm]; exact k0
  have g1 : ¬9223372036854775807 < p.c.length + 1 := by omega
  have g2 : ¬9223372036854775807 < p.c.length + 1 + (dd n).length := by omega
  have g3 : ¬9223372036854775807 < p.c.length + 1 + (dd n).length + 1 := by omega
  have g4 : ¬9223372036854775807 < p.c.length + 1 + (dd n).length + 1 + p.o.length := by omega
  have g5 : ¬9223372036854775807 < p.c.length + 1 + (dd n).length + 1 + p.o.length + 1 := by omega
  have g6 : ¬9223372036854775807 < p.c.length + 1 + (dd n).length + 1 + p.o.length + 1 + M.length := by omega
  have g7 : ¬9223372036854775807 < p.c.length + 1 + (dd n).length + 1 + p.o.length + 1 + M.length + 1 := by omega
  have g8 : ¬9223372036854775807 < p.c.length + 1 + (dd n).length + 1 + p.o.length + 1 + M.length + 1 + (dd m).length := by omega
  rw [hn, hm]
  go_enter Tryd.func23, Tryd.ntmps23
  go_wp2_with fail
  refine region_held (KeepI w p) (by kernel_rfl) (by kernel_rfl) k0' ?_
  repeat (go_big_quiet_step ((first | rfl | (go_at_call 47; exact HD.out _ (by assumption) _) | (go_at_call 48; exact HM.out _))))
  refine wpQuiet_nil ?_
  rintro _ ⟨y, rfl⟩
  go_wp2_with fail
  go_ret
  exact ⟨by rw [ET.out, ← ES.out] <;> rfl, HB.out y⟩
theorem itext_len {p : Ist} (lc : p.c.length ≤ 7) (lo : p.o.length ≤ 7) (hk0 : 0 ≤ p.k) (hk3 : p.k ≤ 3) (lm : (money p.v).length ≤ 30) (ha0 : 0 ≤ p.a) (ha1 : p.a ≤ 60) : (itext p).length ≤ 100 := by
  have l1 : (Lib.decDigits p.k.toNat).length ≤ 19 := dec_len 18 _ (by omega)
  have l2 : (Lib.decDigits p.a.toNat).length ≤ 19 := dec_len 18 _ (by omega)
  unfold itext
  simp only [List.length_append, List.length_cons]; omega
end Go.Proofs.YthainomgmgaikaaDoor
