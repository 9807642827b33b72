/- The letters of needs: impl.letters; spec's slices of the letters. -/
import Derived.Test.YtmhlkbocejnpoaaDoorCla
import Derived.Test.YtmhlkbocejnpoaaDoorPush
import Derived.Test.YtmhlkbocejnpoaaDoorText
import Derived.Laws.IdiomStrings
namespace Go.Proofs.YtmhlkbocejnpoaaDoor
open Go.ChangeShapes Go.WideShapes Go.ChangeAt Go.RowKit
set_option linter.unusedVariables false

/-- The letter of a need; the letters of a clause. -/
def ltr (n : Int) : UInt8 := if n = 0 then 42 else if n = 1 then 43 else 45
def ltrs (p : Cls) : List UInt8 := [ltr p.p, ltr p.v, ltr p.r]
theorem ltrs_len (p : Cls) : (ltrs p).length = 3 := rfl
theorem ltr_take (p : Cls) (k : Nat) (hk : k < 3) : (ltrs p).take (k + 1) = (ltrs p).take k ++ [ltr (ndC p k)] := by
  rcases (by omega : k = 0 ∨ k = 1 ∨ k = 2) with rfl | rfl | rfl <;> rfl
theorem u8Info : (Tryd.prog.info? 5).map (fun i => (i.zero, i.size, i.bytes)) = some (some (.int .u8 0), 1, 1) := by kernel_rfl
theorem idx_ltr (n : Int) (h : n = 0 ∨ n = 1 ∨ n = 2) (w : World) : (Instr.index 9 (.string ⟨#[42, 43, 45]⟩) (.int .i64 n)).run Tryd.prog w = .ok (.int .u8 ((ltr n).toNat : Int)) w := by
  rcases h with rfl | rfl | rfl <;> kernel_rfl
def encB (b : UInt8) : Value := .int .u8 (b.toNat : Int)
theorem conv_back (w : World) (g cap : Nat) (l : List UInt8) (h : ∀ j b, l[j]? = some b → w.cell? ⟨g, j, none⟩ = some (.int .u8 (b.toNat : Int))) :
    (convert 22 9 (.slice (some ⟨g, 0, none⟩) l.length cap)).run Tryd.prog w = .ok (.string ⟨l.toArray⟩) w := by
  refine run_convert_bytes_back w 22 9 5 ⟨g, 0, none⟩ cap l Tryd.underlying22 Tryd.underlying5 Tryd.underlying9 (fun j hj => ?_)
  have := h j l[j] (List.getElem?_eq_getElem hj)
  rw [show ((⟨g, 0, none⟩ : Addr).add j) = ⟨g, j, none⟩ from by unfold Addr.add; split <;> simp_all]
  exact this
theorem own_bytes {W : World} {base g n cap : Nat} {l : List UInt8} (h : W.ownsRow base 5 1 (.slice (some ⟨g, 0, none⟩) n cap) n (l.map encB)) : ∀ j b, l[j]? = some b → W.cell? ⟨g, j, none⟩ = some (.int .u8 (b.toNat : Int)) := by
  intro j b hj
  rcases h.2 with ⟨e, _⟩ | ⟨g', cap', cur, e, _, hg, _, _, hs, ht⟩
  · cases e
  · injection e with e _ _; injection e with e; injection e with e _ _
    subst e
    rw [cell_of_row _ _ _ _ _ _ hg]
    have hx : (l.map encB)[j]? = some (encB b) := by simp [hj]
    rw [← ht, List.getElem?_take] at hx
    split at hx
    · simpa [encB] using hx
    · cases hx
set_option maxRecDepth 100000 in
set_option maxHeartbeats 4000000 in
theorem letters_iC (p : Cls) (w : World) (hn0 : p.p = 0 ∨ p.p = 1 ∨ p.p = 2) (hn1 : p.v = 0 ∨ p.v = 1 ∨ p.v = 2) (hn2 : p.r = 0 ∨ p.r = 1 ∨ p.r = 2) :
    Calls Tryd.prog 21 #[.agg #[.string ⟨p.c.toArray⟩, .int .i64 p.k, .int .i64 p.p, .int .i64 p.v, .int .i64 p.r, .int .i64 p.e, .string ⟨p.t.toArray⟩]] w (Gives1 w (ltrs p)) := by
  obtain ⟨i0, hi, hz0, hz1, hz2⟩ := info_parts u8Info
  have kb := (KeepC.new w p).step (below_alloc _ (.cells #[] 5))
  have HO := Lib.hid (fun w => order_i p w)
  have hs1 : (w.alloc (.cells #[.string ⟨p.c.toArray⟩, .int .i64 p.k, .int .i64 p.p, .int .i64 p.v, .int .i64 p.r, .int .i64 p.e, .string ⟨p.t.toArray⟩] 25)).heap.size = w.heap.size + 1 := by simp
  have own0 : ((w.alloc (.cells #[.string ⟨p.c.toArray⟩, .int .i64 p.k, .int .i64 p.p, .int .i64 p.v, .int .i64 p.r, .int .i64 p.e, .string ⟨p.t.toArray⟩] 25)).alloc (.cells #[] 5)).ownsRow w.heap.size 5 1 (.slice (some ⟨w.heap.size + 1, 0, none⟩) 0 0) 0 [] := by
    rw [← hs1]; exact World.ownsRow_made _ #[] 0 (by simp) (by decide) (by simp)
  have hneed : Hid (∀ k, k < 3 → ndC p k = 0 ∨ ndC p k = 1 ∨ ndC p k = 2) := Lib.hid fun k hk => by
    rcases (by omega : k = 0 ∨ k = 1 ∨ k = 2) with rfl | rfl | rfl
    · exact hn0
    · exact hn1
    · exact hn2
  have HT := Lib.hid (fun k hk => ltr_take p k hk)
  have J : Hid (∀ k : Nat, k < 3 → ∀ w, (Instr.index 73 (.agg #[.int .i64 p.p, .int .i64 p.v, .int .i64 p.r]) (.int .i64 (k : Int))).run Tryd.prog w = .ok (.int .i64 (ndC p k)) w) := Lib.hid fun k hk w => by
    rcases (by omega : k = 0 ∨ k = 1 ∨ k = 2) with rfl | rfl | rfl
    · kernel_rfl
    · kernel_rfl
    · kernel_rfl
  have c0 := kb.cells.c0; have c1 := kb.cells.c1; have c2 := kb.cells.c2; have c3 := kb.cells.c3; have c4 := kb.cells.c4; have c5 := kb.cells.c5; have c6 := kb.cells.c6
  clear hn0 hn1 hn2 hs1
  go_enter Tryd.func21, Tryd.ntmps21
  go_wp2_with fail
  refine (HO.out _).mono ?_
  rintro e w1 ⟨rfl, b1⟩
  have own1 := own_below own0 b1
  replace kb := kb.step b1
  clear c0 c1 c2 c3 c4 c5 c6 own0 b1
  go_wp2_with fail
  go_loopw [3, 9] (fun v i wr => ∃ k : Nat, k ≤ 3 ∧ i = .int .i64 (k : Int) ∧ Hid (wr.ownsRow w.heap.size 5 1 v k (((ltrs p).take k).map encB)) ∧ Hid (Below w.heap.size w wr)) (fun _ i _ => 3 - (intOf i).toNat)
  case atStart => exact ⟨0, by omega, rfl, Lib.hid own1, Lib.hid kb.bel⟩
  case round =>
    clear kb own1
    obtain ⟨k, hk, rfl, hown, hb⟩ := hrel
    by_cases hlt : k < 3
    · have hnd := hneed.out k hlt
      have ix := J.out k hlt
      have il := idx_ltr (ndC p k) hnd
      have HS := Lib.hid (HT.out k hlt)
      obtain ⟨x, hx⟩ : ∃ x, x = ltr (ndC p k) := ⟨_, rfl⟩
      rw [← hx] at il HS
      obtain ⟨n, hn⟩ : ∃ n, n = ndC p k := ⟨_, rfl⟩
      rw [← hn] at ix il
      clear hnd hx hn
      have ho := hown.out
      have hsz := hb.out.size
      obtain ⟨O, q, rfl⟩ := own_form ho
      go_wp2_with (at_builtin; refine wpList_push _ rfl (.tmp 12) (.tmp 15) 22 rfl w.heap.size 5 i0 _ 1 1 Tryd.underlying22 hi hz0 hz1 hz2 rfl (by decide) _ k _ rfl ho [.int .u8 (x.toNat : Int)] rfl (by simp [Value.oneCell']) rfl (by unfold maxLen; omega) (by omega) hsz ?_; intro v' w' hown' hb')
      go_roundw
      case rel => exact ⟨k + 1, by omega, by go_num, Lib.hid (by rw [HS.out]; simpa [encB] using hown'), Lib.hid (hb.out.trans hb')⟩
      case measure => simp [intOf]; omega
    · obtain rfl : k = 3 := by omega
      have ho := hown.out
      obtain ⟨O, q, rfl⟩ := own_form ho
      obtain ⟨g, rfl⟩ : ∃ g, O = some ⟨g, 0, none⟩ := by
        rcases ho.2 with ⟨_, h0⟩ | ⟨g, cap, cur, e, _⟩
        · omega
        · injection e with e; exact ⟨g, e⟩
      have hcv := conv_back wr g q (ltrs p) (own_bytes (l := ltrs p) ho)
      rw [ltrs_len] at hcv
      generalize ltrs p = L at *
      clear ho
      go_wp2_with fail
      go_ret
      exact ⟨rfl, hb.out⟩
end Go.Proofs.YtmhlkbocejnpoaaDoor
