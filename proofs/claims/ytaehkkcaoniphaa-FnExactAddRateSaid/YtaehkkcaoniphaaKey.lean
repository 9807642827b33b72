/- Keys of the book of rates: impl.keyOf; the key's law. -/
import Derived.Test.YtaehkkcaoniphaaFx
import Derived.Test.YtaehkkcaoniphaaDay
import Derived.WalkLawsBesides
import Derived.Lib.ConvBytes
import Derived.WideKeyPair
import Derived.Maps.Keyed
namespace Go.Proofs.Ytaehkkcaoniphaa
open Go.ChangeShapes Go.WideShapes Go.ChangeAt Go.RowKit
set_option linter.unusedVariables false

theorem keyN_snoc (l : List UInt8) (x : UInt8) : keyN (l ++ [x]) = keyN l * 26 + ((x.toNat : Int) - 65) := by simp [keyN, List.foldl_append]
theorem keyN_part {l : List UInt8} (h : l.all upb = true) : ∀ k, k ≤ 3 → 0 ≤ keyN (l.take k) ∧ keyN (l.take k) ≤ 17575 := by
  have g : ∀ k, 0 ≤ keyN (l.take k) ∧ keyN (l.take k) < 26 ^ k := by
    intro k
    induction k with
    | zero => simp [keyN]
    | succ k ih =>
      rcases Nat.lt_or_ge k l.length with hk | hk
      · have hb := List.all_eq_true.1 h l[k] (List.getElem_mem hk)
        have hb := upb_bd hb
        rw [snoc_of (List.getElem?_eq_getElem hk), keyN_snoc, Int.pow_succ]
        omega
      · rw [List.take_of_length_le (by omega), ← List.take_of_length_le hk, Int.pow_succ]
        omega
  intro k hk
  have := g k
  match k, hk with
  | 0, _ => omega
  | 1, _ => omega
  | 2, _ => omega
  | 3, _ => omega

theorem heap_setRow_same {w : World} {g : Nat} {cs cs' : Array Value} {t : TypeId} (h : w.heap[g]? = some (.cells cs t (0, 0))) : (w.setRow g cs').heap[g]? = some (.cells cs' t (0, 0)) := by
  have hl := (Array.getElem?_eq_some_iff.1 h).1
  have h2 := (Array.getElem?_eq_some_iff.1 h).2
  simp [World.setRow, Array.getElem?_modify, h]
theorem heap_setRow_other {w : World} {g i : Nat} {cs : Array Value} (h : i ≠ g) : (w.setRow g cs).heap[i]? = w.heap[i]? := by
  simp [World.setRow, Array.getElem?_modify, Ne.symm h]
theorem below_setRow {w0 w : World} {B g : Nat} {cs : Array Value} (h : Below B w0 w) (hg : B ≤ g) : Below B w0 (w.setRow g cs) :=
  ⟨h.os, h.tape, h.output, by rw [size_setRow]; exact h.size, fun i hi => by rw [heap_setRow_other (by omega)]; exact h.block i hi⟩

theorem keySz : (Try.prog.info? 116).map (·.size) = some 2 := by kernel_rfl
/-- The call's own two boxes: the result's, the bytes'. -/
structure KeepK (w0 : World) (l : List UInt8) (W : World) : Prop where
  a : W.heap[w0.heap.size]? = some (.cells #[.int .i64 0, .int .i64 0] 116 (0, 0))
  b : ∀ j x, l[j]? = some x → W.cell? ⟨w0.heap.size + 1, j, none⟩ = some (.int .u8 (x.toNat : Int))
  bel : Below w0.heap.size w0 W
theorem KeepK.new (w : World) (l : List UInt8) : KeepK w l (Lib.bytesWorld (w.alloc (.cells #[.int .i64 0, .int .i64 0] 116)) 5 ⟨l.toArray⟩) := by
  have hs : (w.alloc (.cells #[.int .i64 0, .int .i64 0] 116)).heap.size = w.heap.size + 1 := by simp
  refine ⟨?_, ?_, ?_⟩
  · rw [Lib.bytesWorld_at_old _ _ _ _ (by omega)]
    exact heap_alloc_new _ _
  · intro j x hj
    have hl := (List.getElem?_eq_some_iff.1 hj).1
    rw [← hs, Lib.bytesWorld_cell _ _ ⟨l.toArray⟩ j (show j < l.length from hl)]
    simp [List.getD, hj]
  · refine belowGo (below_alloc w (.cells #[.int .i64 0, .int .i64 0] 116)) ⟨rfl, rfl, rfl, by rw [Lib.bytesWorld_size]; exact Nat.le_succ _, fun i hi => ?_⟩
    exact Lib.bytesWorld_at_old _ _ _ _ hi

set_option maxRecDepth 100000 in
set_option maxHeartbeats 2000000 in
theorem keyOf_i (s : List UInt8) (d : Int) (w : World) (hs : codeB s = true) :
    Calls Try.prog 86 #[.string ⟨s.toArray⟩, .int .i64 d] w fun e w' => e = .returned (.agg #[.int .i64 (keyN s), .int .i64 d]) ∧ Below w.heap.size w w' := by
  have hz : (⟨s.toArray⟩ : ByteArray).size = s.length := rfl
  obtain ⟨h3, hu⟩ := codeB_iff.1 hs
  have hcv := Lib.run_convert_string_bytes (P := Try.prog) (w.alloc (.cells #[.int .i64 0, .int .i64 0] 116)) 9 22 5 ⟨s.toArray⟩ Try.underlying9 Try.underlying22 Try.underlying5
  have HK := Lib.hid (KeepK.new w s)
  go_enter Try.func86, Try.ntmps86
  go_wp2_with fail
  go_loopw [5, 7, 11] (fun n x i wr => ∃ k : Nat, k ≤ s.length ∧ i = .int .i64 k ∧ n = .int .i64 (keyN (s.take k)) ∧ KeepK w s wr) (fun _ _ i _ => s.length - (intOf i).toNat)
  case atStart => exact ⟨0, Nat.zero_le _, rfl, rfl, HK.out⟩
  case round =>
    obtain ⟨k, hk, rfl, rfl, K⟩ := hrel
    have ha := K.a
    by_cases hlt : k < s.length
    · obtain ⟨b, hbk⟩ : ∃ b, s[k]? = some b := ⟨s[k], by simp [hlt]⟩
      have hc := K.b k b hbk
      have hb255 : (b.toNat : Int) ≤ 255 := by have := b.toNat_lt; omega
      have hub := upb_bd (List.all_eq_true.1 hu b (List.mem_of_getElem? hbk))
      have hp := keyN_part hu k (by omega)
      have HN : Hid (keyN (s.take (k + 1)) = keyN (s.take k) * 26 + ((b.toNat : Int) - 65)) := Lib.hid (by rw [snoc_of hbk, keyN_snoc])
      have K2 := Lib.hid K
      clear hbk K hu hs HK hcv
      obtain ⟨n, hn⟩ : ∃ n, n = keyN (s.take k) := ⟨_, rfl⟩
      rw [← hn] at hp HN ⊢
      clear hn
      go_wp2_with fail
      go_roundw
      case rel => exact ⟨k + 1, by omega, by go_num, by rw [HN.out], K2.out⟩
      case measure => simp [intOf]; omega
    · have E := Lib.hid (take_all hk hlt)
      have K2 := Lib.hid K
      clear K hu hs HK hcv
      have hg2 : (wr.setRow w.heap.size #[.int .i64 (keyN s), .int .i64 d]).heap[w.heap.size]? = some (.cells #[.int .i64 (keyN s), .int .i64 d] 116 (0, 0)) := heap_setRow_same ha
      have hb2 : Below w.heap.size w (wr.setRow w.heap.size #[.int .i64 (keyN s), .int .i64 d]) := below_setRow K2.out.bel (Nat.le_refl _)
      rw [E.out]
      go_wp2_with (refine wpList_store_row rfl 116 (.tmp 4) (.tmp 24) rfl w.heap.size #[.int .i64 (keyN s), .int .i64 d] rfl rfl 116 #[.int .i64 0, .int .i64 0] ha keySz rfl (by simp [Value.oneCell']) ?_)
      (try simp only [Exit.inBlock, Exit.then])
      refine bodyPost_ret (v := .agg #[.int .i64 (keyN s), .int .i64 d]) ?_ ?_ ?_
      · exact results_cell_row rfl _ _ w.heap.size 116 _ (0, 0) _ rfl hg2 Try.underlying116 rfl keySz
      · rfl
      exact ⟨rfl, hb2⟩
end Go.Proofs.Ytaehkkcaoniphaa
