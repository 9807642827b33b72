import Derived.Test.YtjcklmhgjdmjoaaGreatOws
import Derived.Test.YtjcklmhgjdmjoaaGreatShelf
import Derived.Sort.OwnSorted
namespace Go.Proofs.YtjcklmhgjdmjoaaGreat
open Go.ChangeShapes Go.WideShapes Go.ChangeAt Go.RowKit
set_option linter.unusedVariables false
theorem compact_leO (d : Array (List UInt8)) (m : Nat) : (Lib.compactUpTo d m).length <= m := by
 unfold Lib.compactUpTo; rw [List.length_map]; have := List.length_filter_le (Lib.keeps d) (List.range m); simpa using this
theorem compact_iO (O : Option Addr) (q : Nat) (ws : List (List UInt8)) (base : Nat) (w : World) (h : Ost w base O ws.length q ws) (hn : ws.length <= 1048576) :
  Calls Tryz.prog 39 #[.slice O ws.length q] w fun e w' => e = .returned (.slice O (Lib.compact ws).length q) /\ Ost w' base O (Lib.compact ws).length q (Lib.compact ws) /\ w.grownBy w' (Value.slice O ws.length q).ownBlock := by
 have hle : (Lib.compact ws).length <= ws.length := compact_leO _ _
 rcases h.2 with ⟨h1, h2⟩ | ⟨g, cap, cur, h1, h2, h3, h4, h5, h6, h7⟩
 ·
  obtain rfl : ws = [] := List.eq_nil_of_length_eq_zero h2
  refine (Tryz.slices_Compact_string_empty O q w).mono ?_
  rintro e w' ⟨rfl, rfl⟩
  exact ⟨rfl, h, World.grownBy.refl _ _⟩
 ·
  injection h1 with h1 _ h8
  subst h1 h8
  have hH : Go.Sort.Holds encStr w g 0 ws.toArray := holds_of_block h3 (by simpa using h7)
  refine (Tryz.slices_Compact_string g 0 q ws w hH (by omega) h4).mono ?_
  rintro e w' ⟨rfl, n, rfl⟩
  have hl : (Lib.compact ws ++ List.replicate (ws.length - (Lib.compact ws).length) []).length = ws.length := by simp; omega
  have h9 := ownsRow_sorted (n := n) (os := #[]) (base := base) hl h2 h3 h4 h5 h6
  have h10 := grownBy_sorted (w := w) (g := g) (n := n) (os := #[]) (Lib.compact ws ++ List.replicate (ws.length - (Lib.compact ws).length) []).toArray
  rw [Go.Sort.grow_empty] at h9 h10
  refine ⟨rfl, ?_, h10⟩
  have h11 := own_take h9 hle
  rwa [<- List.map_take, List.take_left'] at h11
  rfl
theorem sort_iO (O : Option Addr) (q : Nat) (ws : List (List UInt8)) (base : Nat) (w : World) (h : Ost w base O ws.length q ws) (hn : ws.length <= 1048576) :
  Calls Tryz.prog 38 #[.slice O ws.length q] w fun e w' => e = .returned (.tuple #[]) /\ Ost w' base O ws.length q (ws.mergeSort fun x y => decide (x <= y)) /\ w.grownBy w' (Value.slice O ws.length q).ownBlock := by
 rcases h.2 with ⟨h1, h2⟩ | ⟨g, cap, cur, h1, h2, h3, h4, h5, h6, h7⟩
 ·
  obtain rfl : ws = [] := List.eq_nil_of_length_eq_zero h2
  refine (Tryz.slices_Sort_string_none O q w).mono ?_
  rintro e w' ⟨rfl, rfl⟩
  exact ⟨rfl, by simpa using h, World.grownBy.refl _ _⟩
 ·
  injection h1 with h1 _ h8
  subst h1 h8
  have hH : Go.Sort.Holds encStr w g 0 ws.toArray := holds_of_block h3 (by simpa using h7)
  refine (Tryz.slices_Sort_string g 0 q ws w hH (lt_some h3) (by omega)).mono ?_
  rintro e w' ⟨rfl, n, os, rfl⟩
  exact ⟨rfl, ownsRow_sorted (n := n) (os := os) (base := base) (List.length_mergeSort _) h2 h3 h4 h5 h6, grownBy_sorted (w := w) (g := g) (n := n) (os := os) _⟩
end Go.Proofs.YtjcklmhgjdmjoaaGreat
