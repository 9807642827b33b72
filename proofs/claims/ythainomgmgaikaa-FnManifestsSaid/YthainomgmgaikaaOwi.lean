/- OwnersOf on both sides. -/
import Derived.Test.YthainomgmgaikaaOws
import Derived.Test.YthainomgmgaikaaShelf
import Derived.Sort.OwnSorted
namespace Go.Proofs.Ythainomgmgaikaa
open Go.ChangeShapes Go.WideShapes Go.ChangeAt Go.RowKit
set_option linter.unusedVariables false

theorem compact_leO (d : Array (List UInt8)) (m : Nat) : (Lib.compactUpTo d m).length ≤ m := by
  unfold Lib.compactUpTo; rw [List.length_map]; have := List.length_filter_le (Lib.keeps d) (List.range m); simpa using this
/-- slices.Compact on a row of the call's own. -/
theorem compact_iO (O : Option Addr) (q : Nat) (ws : List (List UInt8)) (base : Nat) (w : World) (h : Ost w base O ws.length q ws) (hn : ws.length ≤ 1048576) :
    Calls Try.prog 56 #[.slice O ws.length q] w fun e w' => e = .returned (.slice O (Lib.compact ws).length q) ∧ Ost w' base O (Lib.compact ws).length q (Lib.compact ws) ∧ w.grownBy w' (Value.slice O ws.length q).ownBlock := by
  have hle : (Lib.compact ws).length ≤ ws.length := compact_leO _ _
  rcases h.2 with ⟨h1, h2⟩ | ⟨g, cap, cur, h1, h2, h3, h4, h5, h6, h7⟩
  · obtain rfl : ws = [] := List.eq_nil_of_length_eq_zero h2
    refine (Try.slices_Compact_string_empty O q w).mono ?_
    rintro e w' ⟨rfl, rfl⟩
    exact ⟨rfl, h, World.grownBy.refl _ _⟩
  · injection h1 with h1 _ h8
    subst h1 h8
    have hH : Go.Sort.Holds encStr w g 0 ws.toArray := holds_of_block h3 (by simpa using h7)
    refine (Try.slices_Compact_string g 0 q ws w hH (by omega) h4).mono ?_
    rintro e w' ⟨rfl, n, rfl⟩
    have hl : (Lib.compact ws ++ List.replicate (ws.length - (Lib.compact ws).length) []).length = ws.length := by simp; omega
    have h9 := ownsRow_sorted (n := n) (os := #[]) (base := base) hl h2 h3 h4 h5 h6
    have h10 := grownBy_sorted (w := w) (g := g) (n := n) (os := #[]) (Lib.compact ws ++ List.replicate (ws.length - (Lib.compact ws).length) []).toArray
    rw [Go.Sort.grow_empty] at h9 h10
    refine ⟨rfl, ?_, h10⟩
    have h11 := own_take h9 hle
    rwa [← List.map_take, List.take_left'] at h11
    rfl
/-- slices.Sort on a row of the call's own. -/
theorem sort_iO (O : Option Addr) (q : Nat) (ws : List (List UInt8)) (base : Nat) (w : World) (h : Ost w base O ws.length q ws) (hn : ws.length ≤ 1048576) :
    Calls Try.prog 55 #[.slice O ws.length q] w fun e w' => e = .returned (.tuple #[]) ∧ Ost w' base O ws.length q (ws.mergeSort fun x y => decide (x ≤ y)) ∧ w.grownBy w' (Value.slice O ws.length q).ownBlock := by
  rcases h.2 with ⟨h1, h2⟩ | ⟨g, cap, cur, h1, h2, h3, h4, h5, h6, h7⟩
  · obtain rfl : ws = [] := List.eq_nil_of_length_eq_zero h2
    refine (Try.slices_Sort_string_none O q w).mono ?_
    rintro e w' ⟨rfl, rfl⟩
    exact ⟨rfl, by simpa using h, World.grownBy.refl _ _⟩
  · injection h1 with h1 _ h8
    subst h1 h8
    have hH : Go.Sort.Holds encStr w g 0 ws.toArray := holds_of_block h3 (by simpa using h7)
    refine (Try.slices_Sort_string g 0 q ws w hH (lt_some h3) (by omega)).mono ?_
    rintro e w' ⟨rfl, n, os, rfl⟩
    exact ⟨rfl, ownsRow_sorted (n := n) (os := os) (base := base) (List.length_mergeSort _) h2 h3 h4 h5 h6, grownBy_sorted (w := w) (g := g) (n := n) (os := os) _⟩
set_option maxRecDepth 100000 in
set_option maxHeartbeats 2000000 in
theorem owners_i (A : Option Addr) (c : Nat) (ps : List Ist) (w : World) (h : ITbl w A ps) :
    Calls Try.prog 18 #[.slice A ps.length c] w (NewStrsC w (ownR ps)) := by
  obtain ⟨i0, hi, hz0, hz1, hz2⟩ := info_parts strInfo
  have hn := h.len
  rcases Bool.eq_false_or_eq_true (manB ps) with hm | hm
  · have E := Lib.hid (ownR_ok hm)
    go_enter Try.func18, Try.ntmps18
    go_wp2_with fail
    refine (manI_q h hm).mono ?_
    rintro e w1 ⟨rfl, b1⟩
    have hR := h.row.below b1
    clear h hm
    go_wp2_with fail
    go_loopw [4, 13] (fun o i wr => ∃ (k : Nat) (ys : List (List UInt8)), k ≤ ps.length ∧ i = .int .i64 k ∧ wr.ownsRow w1.heap.size 9 1 o ys.length (ys.map encStr) ∧ Hid (ys = (ps.take k).map Ist.o) ∧ Below w1.heap.size w1 wr) (fun _ i _ => ps.length - (intOf i).toNat)
    case atStart => exact ⟨0, [], Nat.zero_le _, rfl, made0i _ _ _ _ (Nat.le_refl _), Lib.hid rfl, (Below.refl _ _).alloc (Nat.le_refl _) _⟩
    case round =>
      obtain ⟨k, ys, hk, rfl, hown, hys, hb⟩ := hrel
      obtain ⟨O, q, rfl⟩ := own_form hown
      have hyl : ys.length ≤ k := by rw [hys.out, List.length_map, List.length_take]; omega
      by_cases hlt : k < ps.length
      · obtain ⟨b, off, p, rfl, hl, hp, h4⟩ := (hR.below hb).at hlt
        have c0 := h4.c0; have c1 := h4.c1; have c2 := h4.c2; have c3 := h4.c3; have c4 := h4.c4
        have HS2 : Hid (ys ++ [p.o] = (ps.take (k + 1)).map Ist.o) := Lib.hid (by rw [snoc_of hp.out, hys.out]; simp)
        have kn := KeepI.new wr p
        have hown2 := hown.alloc (.cells #[.string ⟨p.c.toArray⟩, .int .i64 p.k, .string ⟨p.o.toArray⟩, .int .i64 p.v, .int .i64 p.a] 46)
        have HB := Lib.hid (belowGo hb kn.bel)
        have hsz := Lib.hid HB.out.size
        have hzz : Hid (wr.heap.size + 1 = (wr.alloc (.cells #[.string ⟨p.c.toArray⟩, .int .i64 p.k, .string ⟨p.o.toArray⟩, .int .i64 p.v, .int .i64 p.a] 46)).heap.size) := Lib.hid (by simp)
        clear hR h4 hp hys hown kn
        go_wp2_with (at_builtin; refine wpList_push _ rfl (.tmp 17) (.tmp 20) 32 rfl w1.heap.size 9 i0 _ 1 16 Try.underlying32 hi hz0 hz1 hz2 rfl (by decide) _ ys.length _ rfl hown2 [.string ⟨p.o.toArray⟩] rfl (by simp [Value.oneCell']) (congrArg (fun n => Value.slice (some ⟨n, 0, none⟩) 1 1) hzz.out) (by unfold maxLen; omega) (by omega) hsz.out ?_; intro v' w' hown' hb')
        go_roundw
        case rel => exact ⟨k + 1, ys ++ [p.o], by omega, by go_num, by simpa [encStr] using hown', HS2, HB.out.trans hb'⟩
        case measure => simp [intOf]; omega
      · have HY : Hid (ownU (ps.map Ist.o) = Lib.compact (ys.mergeSort fun x y => decide (x ≤ y))) := Lib.hid (by rw [compact_sort, hys.out, take_all hk hlt])
        have HSO := Lib.hid (sort_iO O q ys w1.heap.size wr hown (by omega))
        have HL := Lib.hid (fun k e => (hown.lt k e).1)
        have hsl : (ys.mergeSort fun x y => decide (x ≤ y)).length = ys.length := List.length_mergeSort _
        obtain ⟨zs, hzs⟩ : ∃ zs, zs = ys.mergeSort fun x y => decide (x ≤ y) := ⟨_, rfl⟩
        rw [← hzs] at HY HSO hsl
        clear hys hR hzs
        go_wp2_with fail
        refine HSO.out.mono ?_
        rintro e w2 ⟨rfl, o2, g2⟩
        have hb2 := hb.grown g2 hb.size HL.out
        have HC := Lib.hid (compact_iO O q zs w1.heap.size w2 (by rw [hsl]; exact o2) (by omega))
        rw [hsl] at HC
        have HL2 := Lib.hid (fun k e => (World.ownsRow.lt o2 k e).1)
        clear o2 g2 hb
        go_wp2_with (go_at_call 56; refine HC.out.mono ?_; rintro e w3 ⟨rfl, o3, g3⟩)
        go_ret2
        rw [E.out, HY.out]
        exact ⟨O, q, rfl, own_monoI o3 b1.size, belowGo b1 (hb2.grown g3 hb2.size HL2.out)⟩
  · have E := Lib.hid (ownR_no hm)
    go_enter Try.func18, Try.ntmps18
    go_wp2_with fail
    refine (manI_q h hm).mono ?_
    rintro e w1 ⟨rfl, b1⟩
    go_wp2_with fail
    go_ret2
    rw [E.out]
    exact ⟨none, 0, rfl, Ost.nil _ _, b1⟩
theorem own_someO {w : World} {base n q : Nat} {O : Option Addr} {L : List (List UInt8)} (h : Ost w base O n q L) (hn : 0 < n) : ∃ g, O = some ⟨g, 0, none⟩ := by
  rcases h.2 with ⟨_, h2⟩ | ⟨g, cap, cur, h1, _⟩
  · omega
  · injection h1 with h1 _ _; exact ⟨g, h1⟩
theorem insU_pos (ws : List (List UInt8)) (s : List UInt8) : 0 < (insU ws s).length := List.length_pos_of_mem ((insU_mem ws s s).2 (.inl rfl))
set_option maxRecDepth 100000 in
set_option maxHeartbeats 2000000 in
theorem owners_s (A : Option Addr) (c : Nat) (ps : List Ist) (w : World) (h : ITbl w A ps) :
    Calls Try.prog 19 #[.slice A ps.length c] w (NewStrsC w (ownR ps)) := by
  have hn := h.len
  rcases Bool.eq_false_or_eq_true (manB ps) with hm | hm
  · have E := Lib.hid (ownR_ok hm)
    have h10 := (manB_iff.1 hm).1
    go_enter Try.func19, Try.ntmps19
    go_wp2_with fail
    refine (manS_q h hm).mono ?_
    rintro e w1 ⟨rfl, b1⟩
    have hR := h.row.below b1
    clear h hm
    go_wp2_with fail
    go_loopw [4, 5] (fun o i wr => ∃ (k g q : Nat) (ys : List (List UInt8)), k ≤ ps.length ∧ i = .int .i64 k ∧ o = .slice (some ⟨g, 0, none⟩) ys.length q ∧ Ost wr w1.heap.size (some ⟨g, 0, none⟩) ys.length q ys ∧ Hid (ys = ownU ((ps.take k).map Ist.o)) ∧ Below w1.heap.size w1 wr) (fun _ i _ => ps.length - (intOf i).toNat)
    case atStart => exact ⟨0, _, 0, [], Nat.zero_le _, rfl, rfl, made0i _ _ _ _ (Nat.le_refl _), Lib.hid rfl, (Below.refl _ _).alloc (Nat.le_refl _) _⟩
    case round =>
      obtain ⟨k, g, q, ys, hk, rfl, rfl, hown, hys, hb⟩ := hrel
      have hyl : ys.length ≤ k := by rw [hys.out]; have := ownU_len ((ps.take k).map Ist.o); rw [List.length_map, List.length_take] at this; omega
      by_cases hlt : k < ps.length
      · obtain ⟨b, off, p, rfl, hl, hp, h4⟩ := (hR.below hb).at hlt
        have c0 := h4.c0; have c1 := h4.c1; have c2 := h4.c2; have c3 := h4.c3; have c4 := h4.c4
        have HS2 : Hid (insU ys p.o = ownU ((ps.take (k + 1)).map Ist.o)) := Lib.hid (by rw [snoc_of hp.out, List.map_append, List.map_cons, List.map_nil, ownU_snoc, ← hys.out])
        have HI := Lib.hid (insert_s w1.heap.size g q ys p.o wr hown (by omega) (own_roomO hown) hb.size)
        have hpos := insU_pos ys p.o
        clear hR h4 hp hys hown
        go_wp2_with (go_at_call 57; refine HI.out.mono ?_; rintro e w2 ⟨O, q2, rfl, o2, b2⟩)
        obtain ⟨g2, rfl⟩ := own_someO o2 hpos
        go_roundw
        case rel => exact ⟨k + 1, g2, q2, insU ys p.o, by omega, by go_num, rfl, o2, HS2, hb.trans b2⟩
        case measure => simp [intOf]; omega
      · have HY : Hid (ownU (ps.map Ist.o) = ys) := Lib.hid (by rw [hys.out, take_all hk hlt])
        clear hys hR
        go_wp2_with fail
        go_ret2
        rw [E.out, HY.out]
        exact ⟨_, q, rfl, own_monoI hown b1.size, belowGo b1 hb⟩
  · have E := Lib.hid (ownR_no hm)
    go_enter Try.func19, Try.ntmps19
    go_wp2_with fail
    refine (manS_q h hm).mono ?_
    rintro e w1 ⟨rfl, b1⟩
    go_wp2_with fail
    go_ret2
    rw [E.out]
    exact ⟨none, 0, rfl, Ost.nil _ _, b1⟩
end Go.Proofs.Ythainomgmgaikaa
