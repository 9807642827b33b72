/- Two digits; the library writes a number; its table. -/
import Derived.Test.YtmhlkbocejnpoaaDoorText
import Derived.Test.YtmhlkbocejnpoaaDoorShelf
import Derived.Lib.ItoaMem
import Derived.Lib.AppendIntMem
import Derived.Lib.LaidTab
import Derived.LaidLaws
namespace Go.Proofs.YtmhlkbocejnpoaaDoor
open Go.ChangeShapes Go.WideShapes Go.ChangeAt Go.RowKit
set_option linter.unusedVariables false

/-- Two digits. -/
def two (r : Nat) : List UInt8 := [UInt8.ofNat (48 + r / 10), UInt8.ofNat (48 + r % 10)]
theorem two_lo {r : Nat} (h : r < 10) : 48 :: Lib.decDigits r = two r := by
  rw [Lib.decDigits_one h]; unfold two
  rw [show r / 10 = 0 from by omega, show r % 10 = r from by omega]; rfl
theorem two_hi {r : Nat} (h : ¬ r < 10) (h2 : r < 100) : Lib.decDigits r = two r := Lib.decDigits_two h h2
theorem two_cut {r : Nat} (h : r < 100) : (Lib.decDigits (100 + r)).drop 1 = two r := by
  rw [dec_hi2 (by omega), dec_hi2 (n := (100 + r) / 10) (by omega), Lib.decDigits_one (by omega)]
  unfold two
  rw [show (100 + r) / 10 % 10 = r / 10 from by omega, show (100 + r) % 10 = r % 10 from by omega]
  rfl
theorem str_app (a b : List UInt8) : (⟨a.toArray⟩ : ByteArray) ++ (⟨b.toArray⟩ : ByteArray) = ⟨(a ++ b).toArray⟩ := ByteArray.mk_append_mk ..
theorem str_ext {l : List UInt8} {b e : Nat} : ((⟨l.toArray⟩ : ByteArray).extract b e) = ⟨((l.drop b).take (e - b)).toArray⟩ := by
  apply ByteArray.ext
  apply Array.ext'
  rw [Lib.extract_data]
theorem str_cut {r : Nat} (h : r < 100) : (⟨(Lib.decDigits (100 + r)).toArray⟩ : ByteArray).extract 1 3 = ⟨(two r).toArray⟩ := by
  have hl2 : (Lib.decDigits (100 + r)).length = 3 := by
    rw [dec_hi2 (by omega), dec_hi2 (n := (100 + r) / 10) (by omega), Lib.decDigits_one (by omega)]; rfl
  rw [str_ext, List.take_of_length_le (by rw [List.length_drop]; omega), two_cut h]
/-- The library's table of powers of ten. -/
def Tab (w : World) : Prop := Lib.TabIs Tryd.prog w "internal/strconv.uint64pow10" .u64 Lib.pow10Tab
theorem Tab.below {w w' : World} (h : Tab w) (hb : Below w.heap.size w w') : Tab w' := by
  unfold Tab Lib.TabIs World.var? at *
  cases hg : Tryd.prog.globalNamed "internal/strconv.uint64pow10" with
  | none => simp [hg] at h
  | some g =>
    simp only [hg, Option.bind_some] at h ⊢
    have hlt : g < w.heap.size := by
      rcases Nat.lt_or_ge g w.heap.size with h1 | h1
      · exact h1
      · rw [Array.getElem?_eq_none h1] at h; simp at h
    rw [hb.block g hlt]; exact h

theorem laid_tail {P : Program} {x : String × DataW Unit} {r : List (String × DataW Unit)} {W : World} (h : laidMet P (x :: r) W) : laidMet P r W := by
  obtain ⟨ps, ⟨g, t, cs, fuel, p, q, _, _, _, _, hq, rfl⟩, hn, hr⟩ := h
  exact ⟨q, hq, (List.nodup_append.1 hn).2.1, fun b off hb => hr b off (List.mem_append_right _ hb)⟩
theorem tab_of {r : List (String × DataW Unit)} {w : World} (h : laidMet Tryd.prog (("internal/strconv.uint64pow10", Rows.laid_internal_strconv_uint64pow10) :: r) w) : Tab w :=
  Lib.tabIs_of_head (g := 0) (t := 101) (e := 84) (n := 20) (by kernel_rfl) (by kernel_rfl) Tryd.underlying101 Tryd.underlying84 (by kernel_rfl) (by kernel_rfl) (rest := r) h

theorem fmt_i (u : Nat) (hu : u ≤ 1000000000000000000) (w : World) (ht : Tab w) : Calls Tryd.prog 19 #[.int .i64 u, .int .i64 10] w (Gives1 w (Lib.decDigits u)) := by
  refine (Tryd.strconv_FormatInt_10 u (by omega) (by omega) w ht).mono ?_
  rintro e w' ⟨rfl, k, os, rfl⟩
  exact ⟨by rw [Lib.itoa_nonneg], Lib.below_grow _ _ (Nat.le_refl _) _ _⟩

def Text2 (w : World) (r : List UInt8 × Int) (e : Ending) (w' : World) : Prop := e = .returned (.tuple #[.string ⟨r.1.toArray⟩, .int .i64 r.2]) ∧ Below w.heap.size w w'
end Go.Proofs.YtmhlkbocejnpoaaDoor
