/- slices.Concat of rows of rates. -/
import Derived.Test.YtaehkkcaoniphaaCct
namespace Go.Proofs.Ytaehkkcaoniphaa
open Go.ChangeShapes Go.WideShapes Go.ChangeAt Go.RowKit
set_option linter.unusedVariables false

/-- Slices of rates in a block. -/
structure Pieces (w : World) (g : Nat) (ss : List (Option Addr × Nat × List Rt)) : Prop where
  lt : g < w.heap.size
  cell : ∀ (k : Nat) (s : Option Addr × Nat × List Rt), ss[k]? = some s → w.cell? ⟨g, k, none⟩ = some (.slice s.1 s.2.2.length s.2.1)
  row : ∀ s ∈ ss, Rr w s.1 s.2.2 ∧ (s.1 = none ∨ ∃ b off, s.1 = some ⟨b, off, none⟩)
theorem Pieces.below {w w' : World} {g : Nat} {ss : List (Option Addr × Nat × List Rt)} (h : Pieces w g ss) (hb : Below w.heap.size w w') : Pieces w' g ss :=
  ⟨Nat.lt_of_lt_of_le h.lt hb.size, fun k s hs => (hb.cell (p := ⟨g, k, none⟩) h.lt).trans (h.cell k s hs), fun s hs => ⟨(h.row s hs).1.below hb, (h.row s hs).2⟩⟩
def joinP (ss : List (Option Addr × Nat × List Rt)) : List Rt := ss.flatMap (·.2.2)
theorem joinP_snoc (ss : List (Option Addr × Nat × List Rt)) (s : Option Addr × Nat × List Rt) : joinP (ss ++ [s]) = joinP ss ++ s.2.2 := by simp [joinP]
theorem joinP_le (ss : List (Option Addr × Nat × List Rt)) (k : Nat) : (joinP (ss.take k)).length ≤ (joinP ss).length := by
  have : joinP ss = joinP (ss.take k) ++ joinP (ss.drop k) := by unfold joinP; rw [← List.flatMap_append, List.take_append_drop]
  rw [this, List.length_append]; omega

set_option maxRecDepth 100000 in
set_option maxHeartbeats 4000000 in
theorem concat_i (g : Nat) (ss : List (Option Addr × Nat × List Rt)) (c : Nat) (w : World) (h : Pieces w g ss) (hn : ss.length ≤ 10) (hj : (joinP ss).length ≤ 900) :
    Calls Try.prog 53 #[.slice (some ⟨g, 0, none⟩) ss.length c] w fun e w' =>
      ∃ O q, e = .returned (.slice O (joinP ss).length q) ∧ Or w' w.heap.size O (joinP ss).length q (joinP ss) ∧ Below w.heap.size w w' := by
  go_enter Try.func53, Try.ntmps53
  go_wp2_with fail
  go_loopw [3, 11] (fun z i wr => ∃ (k m : Nat), k ≤ ss.length ∧ i = .int .i64 k ∧ z = .int .i64 m ∧ Hid (m = (joinP (ss.take k)).length) ∧ Below w.heap.size w wr) (fun _ i _ => ss.length - (intOf i).toNat)
  case atStart => exact ⟨0, 0, Nat.zero_le _, rfl, rfl, Lib.hid rfl, Below.refl _ _⟩
  case round =>
    obtain ⟨k, m, hk, rfl, rfl, hm, hb⟩ := hrel
    have hml : m ≤ 900 := by have := joinP_le ss k; rw [hm.out]; omega
    by_cases hlt : k < ss.length
    · obtain ⟨s, hs⟩ : ∃ s, ss[k]? = some s := ⟨ss[k], by simp [hlt]⟩
      have hc := (h.below hb).cell k s hs
      have HM : Hid (m + s.2.2.length = (joinP (ss.take (k + 1))).length) := Lib.hid (by rw [snoc_of hs, joinP_snoc, List.length_append, hm.out])
      have hle : m + s.2.2.length ≤ 900 := by have := joinP_le ss (k + 1); rw [HM.out]; omega
      obtain ⟨A, cc, l⟩ := s
      simp only at hc hle HM
      clear hs hm h
      go_wp2_with fail
      go_roundw
      case rel => exact ⟨k + 1, m + l.length, by omega, by go_num, by go_num, HM, hb⟩
      case measure => simp [intOf]; omega
    · have hM : Hid (m = (joinP ss).length) := Lib.hid (by have := hm.out; rwa [take_all hk hlt] at this)
      have HP := Lib.hid (fun W hW => h.below (w' := W) hW)
      clear hm h
      go_wp2_with (go_at_call 76; refine (grow0 m _ (by omega)).mono ?_; rintro e w1 ⟨O1, q1, rfl, hown1, b1⟩)
      have hb1 := hb.trans (b1.mono hb.size)
      have hw : w.heap.size ≤ wr.heap.size := hb.size
      have hw2 : wr.heap.size ≤ w1.heap.size := b1.size
      clear hb b1
      obtain ⟨wz, hwz⟩ : ∃ x, x = wr := ⟨_, rfl⟩
      subst hwz
      go_loopw [6, 27] (fun o i wr => ∃ (k : Nat) (js : List Rt) (O : Option Addr) (q : Nat), k ≤ ss.length ∧ i = .int .i64 k ∧ o = .slice O js.length q ∧ Hid (js = joinP (ss.take k)) ∧ wr.ownsRow wz.heap.size 30 4 (.slice O js.length q) js.length (js.flatMap Rt.cells) ∧ Below wz.heap.size w1 wr) (fun _ i _ => ss.length - (intOf i).toNat)
      case atStart => exact ⟨0, [], O1, q1, Nat.zero_le _, rfl, rfl, Lib.hid rfl, hown1, Below.refl _ _⟩
      case round =>
        obtain ⟨k', js, O, q, hk', rfl, rfl, hjs, hrow, hB⟩ := hrel
        by_cases hlt' : k' < ss.length
        · obtain ⟨s, hs⟩ : ∃ s, ss[k']? = some s := ⟨ss[k'], by simp [hlt']⟩
          have hP := HP.out wr (hb1.trans (hB.mono hw))
          have hc := hP.cell k' s hs
          obtain ⟨hR, hA⟩ := hP.row s (List.mem_of_getElem? hs)
          have HM : Hid (js ++ s.2.2 = joinP (ss.take (k' + 1))) := Lib.hid (by rw [snoc_of hs, joinP_snoc, hjs.out])
          have hle : js.length + s.2.2.length ≤ 900 := by have := joinP_le ss (k' + 1); rw [← HM.out, List.length_append] at this; omega
          obtain ⟨A, cc, l⟩ := s
          simp only at hc hle HM hR hA
          have hsz : wz.heap.size ≤ wr.heap.size := Nat.le_trans hw2 hB.size
          clear hs hjs HP hP hM
          go_wp2_with (at_builtin; refine wpList_append_rr _ rfl (.tmp 31) (.tmp 32) rfl wz.heap.size O js.length q _ rfl hrow A cc l rfl hR hA (by omega) hsz ?_; intro O' q' w' hown' hb')
          go_roundw
          case rel => exact ⟨k' + 1, js ++ l, O', q', by omega, by go_num, by rw [List.length_append], HM, by rw [List.length_append, List.flatMap_append]; exact hown', hB.trans hb'⟩
          case measure => simp [intOf]; omega
        · have hJ : Hid (js = joinP ss) := Lib.hid (by have := hjs.out; rwa [take_all hk' hlt'] at this)
          clear hjs HP hM
          go_wp2_with fail
          go_ret
          rw [← hJ.out]
          exact ⟨O, q, rfl, Or.mono hrow hw, hb1.trans (hB.mono hw)⟩
end Go.Proofs.Ytaehkkcaoniphaa
