/- spec.l01Dec writes a number's decimal digits. -/
import Derived.Test.YtmhlkbocejnpoaaDoorBase
import Derived.Lib.ItoaNum
import Derived.Deep.RegionWith
import Derived.Laws.IdiomStrings
namespace Go.Proofs.YtmhlkbocejnpoaaDoor
open Go.ChangeShapes Go.WideShapes Go.ChangeAt Go.RowKit
set_option linter.unusedVariables false

/-- A string out of its bytes. -/
def Gives1 (w : World) (l : List UInt8) (e : Ending) (w' : World) : Prop := e = .returned (.string ⟨l.toArray⟩) ∧ Below w.heap.size w w'

/-- 'string([]byte{b})'. -/
theorem conv_at (W : World) (a : Addr) (x : Int) (h : W.cell? a = some (.int .u8 x)) :
    (convert 22 9 (.slice (some a) 1 1)).run Tryd.prog W = .ok (.string ⟨#[UInt8.ofNat x.toNat]⟩) W := by
  rw [run_convert_bytes_string W 22 9 5 (some a) 1 1 Tryd.underlying22 Tryd.underlying5 Tryd.underlying9]
  have hl := run_loadCells_list (P := Tryd.prog) W a ([x].map (Value.int .u8)) (fun j v hj => by
    cases j with
    | zero => simp at hj; subst hj; simpa [Addr.add] using h
    | succ j => simp at hj)
  rw [run_bytesToString W a 1 1 [x] hl]
  rfl
theorem conv_new (W : World) (x : Int) (t : TypeId) :
    (convert 22 9 (.slice (some ⟨W.heap.size, 0, none⟩) 1 1)).run Tryd.prog (W.alloc (.cells #[.int .u8 x] t)) = .ok (.string ⟨#[UInt8.ofNat x.toNat]⟩) (W.alloc (.cells #[.int .u8 x] t)) :=
  conv_at _ _ x (by rw [cell_of_row _ _ _ _ _ _ (heap_alloc_new W _)]; rfl)

theorem dec_hi2 {n : Nat} (hn : ¬ n < 10) : Lib.decDigits n = Lib.decDigits (n / 10) ++ [UInt8.ofNat (48 + n % 10)] := by
  conv => lhs; rw [Lib.decDigits, dif_neg hn]
theorem dec_hi {n : Nat} (hn : ¬ n < 10) : Lib.decDigits n = Lib.decDigits (n / 10) ++ [UInt8.ofNat (48 + (n : Int) % 10).toNat] := by
  have e : (48 + (n : Int) % 10).toNat = 48 + n % 10 := by omega
  rw [e]
  conv => lhs; rw [Lib.decDigits, dif_neg hn]
theorem keep_new {w w2 : World} {v : Value} {t : TypeId} (hb : Below (w.alloc (.cells #[v] t)).drew.heap.size (w.alloc (.cells #[v] t)).drew w2) : w2.cell? ⟨w.heap.size, 0, none⟩ = some v := by
  rw [hb.cell (p := ⟨w.heap.size, 0, none⟩) (by show w.heap.size < (w.alloc (.cells #[v] t)).heap.size; simp)]
  show (w.alloc (.cells #[v] t)).cell? _ = _
  rw [cell_of_row _ _ _ _ _ _ (heap_alloc_new w _)]; rfl
theorem below_drewd {w w2 : World} (h : Below w.drew.heap.size w.drew w2) : Below w.heap.size w w2 := ⟨h.os, h.tape, h.output, h.size, h.block⟩
theorem below_newd {w w2 : World} {o : Obj} (h : Below (w.alloc o).drew.heap.size (w.alloc o).drew w2) : Below w.heap.size w w2 := by
  have h1 : Below w.heap.size w (w.alloc o) := (Below.refl _ _).alloc (Nat.le_refl _) _
  have h2 : Below (w.alloc o).heap.size (w.alloc o) w2 := ⟨h.os, h.tape, h.output, h.size, h.block⟩
  exact h1.trans (h2.mono h1.size)
theorem dec_len (k : Nat) : ∀ n, n < 10 ^ k → (Lib.decDigits n).length ≤ k + 1 := by
  induction k with
  | zero => intro n h; rw [Lib.decDigits_one (by simp at h; omega)]; simp
  | succ k ih =>
    intro n h
    by_cases hn : n < 10
    · rw [Lib.decDigits_one hn]; simp
    · rw [dec_hi hn]
      have := ih (n / 10) (by rw [Nat.pow_succ] at h; omega)
      simp; omega
theorem dec_lo (n : Nat) (hn : n < 10) (w : World) : Calls Tryd.prog 50 #[.int .i64 n] w (Gives1 w (Lib.decDigits n)) := by
  have E : Hid (Lib.decDigits n = [UInt8.ofNat (48 + (n : Int)).toNat]) := Lib.hid (by rw [Lib.decDigits_one hn]; congr 2)
  have h10 : (n : Int) < 10 := by omega
  have hcv := conv_new w (48 + (n : Int)) 5
  go_enter Tryd.func50, Tryd.ntmps50
  go_wp2_with fail
  go_ret
  exact ⟨by rw [E.out] <;> rfl, (Below.refl _ _).alloc (Nat.le_refl _) _⟩

set_option maxRecDepth 100000 in
set_option maxHeartbeats 1000000 in
theorem dec_any (k : Nat) : ∀ (n : Nat) (w : World), n < 10 ^ k → n < 1000000000000000000 → Calls Tryd.prog 50 #[.int .i64 n] w (Gives1 w (Lib.decDigits n)) := by
  induction k with
  | zero => intro n w h _; exact dec_lo n (by simp at h; omega) w
  | succ k ih =>
    intro n w h hb
    by_cases hn : n < 10
    · exact dec_lo n hn w
    · have H : Hid (∀ w, Calls Tryd.prog 50 #[.int .i64 ((n : Int) / 10)] w (Gives1 w (Lib.decDigits (n / 10)))) := Lib.hid (fun w => by
        have := ih (n / 10) w (by rw [Nat.pow_succ] at h; omega) (by omega)
        simpa using this)
      have E := Lib.hid (dec_hi2 hn)
      have hsz : (Lib.decDigits (n / 10)).length ≤ 19 := dec_len 18 (n / 10) (by omega)
      clear ih h
      have hge : ¬ (n : Int) < 10 := by omega
      have q1 : IntKind.i64.wrap ((n : Int) / 10) = (n : Int) / 10 := IntWalk.i64_in _ (by omega)
      have q2 : (n : Int).tmod 10 = (n : Int) % 10 := Int.tmod_eq_emod_of_nonneg (by omega)
      have q3 : IntKind.i64.wrap (48 + (n : Int) % 10) = 48 + (n : Int) % 10 := IntWalk.i64_in _ (by omega)
      have q4 : IntKind.u8.wrap (48 + (n : Int) % 10) = 48 + (n : Int) % 10 := IntWalk.u8_in _ (by omega)
      have hcv := fun W => conv_new W (48 + (n : Int) % 10) 5
      have hcv2 := conv_at (w.alloc (.cells #[.int .u8 (48 + (n : Int) % 10)] 5)).drew ⟨w.heap.size, 0, none⟩ (48 + (n : Int) % 10) (by
        show (w.alloc (.cells #[.int .u8 (48 + (n : Int) % 10)] 5)).cell? _ = _
        rw [cell_of_row _ _ _ _ _ _ (heap_alloc_new w _)]; rfl)
      go_enter Tryd.func50, Tryd.ntmps50
      go_wp2_with fail
      go_region_with (go_at_call 50; refine (H.out _).mono ?_; rintro e w2 ⟨rfl, hb2⟩; first | (have hcv3 := conv_at w2 _ _ (keep_new hb2)) | skip)
      all_goals
        go_wp2_with fail
        go_ret
        refine ⟨by rw [E.out, ← ByteArray.mk_append_mk]; simp [Act.put], ?_⟩
        first | exact below_newd hb2 | exact (below_drewd hb2).alloc (below_drewd hb2).size _
end Go.Proofs.YtmhlkbocejnpoaaDoor
