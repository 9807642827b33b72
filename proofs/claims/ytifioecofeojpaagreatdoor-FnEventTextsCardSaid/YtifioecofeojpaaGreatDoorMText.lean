import Derived.Test.YtifioecofeojpaaGreatDoorBase
import Derived.Lib.ItoaNum
import Derived.Deep.RegionWith
import Derived.Laws.IdiomStrings
import Derived.Test.YtifioecofeojpaaGreatDoorShelf
import Derived.Lib.ItoaMem
import Derived.Lib.AppendIntMem
import Derived.Lib.LaidTab
import Derived.LaidLaws
/- spec.l01Dec writes a number's decimal digits. -/
namespace Go.Proofs.YtifioecofeojpaaGreatDoor
open Go.ChangeShapes Go.WideShapes Go.ChangeAt Go.RowKit
set_option linter.unusedVariables false

/-- A string out of its bytes. -/
def Gives1 (w : World) (l : List UInt8) (e : Ending) (w' : World) : Prop := e = .returned (.string ⟨l.toArray⟩) ∧ Below w.heap.size w w'

/-- 'string([]byte{b})'. -/
theorem conv_at (W : World) (a : Addr) (x : Int) (h : W.cell? a = some (.int .u8 x)) :
    (convert 22 9 (.slice (some a) 1 1)).run Tryz.prog W = .ok (.string ⟨#[UInt8.ofNat x.toNat]⟩) W := by
  rw [run_convert_bytes_string W 22 9 5 (some a) 1 1 Tryz.underlying22 Tryz.underlying5 Tryz.underlying9]
  have hl := run_loadCells_list (P := Tryz.prog) W a ([x].map (Value.int .u8)) (fun j v hj => by
    cases j with
    | zero => simp at hj; subst hj; simpa [Addr.add] using h
    | succ j => simp at hj)
  rw [run_bytesToString W a 1 1 [x] hl]
  rfl
theorem conv_new (W : World) (x : Int) (t : TypeId) :
    (convert 22 9 (.slice (some ⟨W.heap.size, 0, none⟩) 1 1)).run Tryz.prog (W.alloc (.cells #[.int .u8 x] t)) = .ok (.string ⟨#[UInt8.ofNat x.toNat]⟩) (W.alloc (.cells #[.int .u8 x] t)) :=
  conv_at _ _ x (by rw [cell_of_row _ _ _ _ _ _ (heap_alloc_new W _)]; rfl)

theorem dec_hi2 {n : Nat} (hn : ¬ n < 10) : Lib.decDigits n = Lib.decDigits (n / 10) ++ [UInt8.ofNat (48 + n % 10)] := by
  conv => lhs; rw [Lib.decDigits, dif_neg hn]
theorem dec_hi {n : Nat} (hn : ¬ n < 10) : Lib.decDigits n = Lib.decDigits (n / 10) ++ [UInt8.ofNat (48 + (n : Int) % 10).toNat] := by
  have e : (48 + (n : Int) % 10).toNat = 48 + n % 10 := by omega
  rw [e]
  conv => lhs; rw [Lib.decDigits, dif_neg hn]
theorem keep_new {w w2 : World} {v : Value} {t : TypeId} (hb : Below (w.alloc (.cells #[v] t)).drew.heap.size (w.alloc (.cells #[v] t)).drew w2) : w2.cell? ⟨w.heap.size, 0, none⟩ = some v := by
  rw [hb.cell (p := ⟨w.heap.size, 0, none⟩) (by show w.heap.size < (w.alloc (.cells #[v] t)).heap.size; simp)]
  show (w.alloc (.cells #[v] t)).cell? _ = _
  rw [cell_of_row _ _ _ _ _ _ (heap_alloc_new w _)]; rfl
theorem below_drewd {w w2 : World} (h : Below w.drew.heap.size w.drew w2) : Below w.heap.size w w2 := ⟨h.os, h.tape, h.output, h.size, h.block⟩
theorem below_newd {w w2 : World} {o : Obj} (h : Below (w.alloc o).drew.heap.size (w.alloc o).drew w2) : Below w.heap.size w w2 := by
  have h1 : Below w.heap.size w (w.alloc o) := (Below.refl _ _).alloc (Nat.le_refl _) _
  have h2 : Below (w.alloc o).heap.size (w.alloc o) w2 := ⟨h.os, h.tape, h.output, h.size, h.block⟩
  exact h1.trans (h2.mono h1.size)
theorem dec_len (k : Nat) : ∀ n, n < 10 ^ k → (Lib.decDigits n).length ≤ k + 1 := by
  induction k with
  | zero => intro n h; rw [Lib.decDigits_one (by simp at h; omega)]; simp
  | succ k ih =>
    intro n h
    by_cases hn : n < 10
    · rw [Lib.decDigits_one hn]; simp
    · rw [dec_hi hn]
      have := ih (n / 10) (by rw [Nat.pow_succ] at h; omega)
      simp; omega
theorem dec_lo (n : Nat) (hn : n < 10) (w : World) : Calls Tryz.prog 52 #[.int .i64 n] w (Gives1 w (Lib.decDigits n)) := by
  have E : Hid (Lib.decDigits n = [UInt8.ofNat (48 + (n : Int)).toNat]) := Lib.hid (by rw [Lib.decDigits_one hn]; congr 2)
  have h10 : (n : Int) < 10 := by omega
  have hcv := conv_new w (48 + (n : Int)) 5
  go_enter Tryz.func52, Tryz.ntmps52
  go_wp2_with fail
  go_ret
  exact ⟨by rw [E.out] <;> rfl, (Below.refl _ _).alloc (Nat.le_refl _) _⟩

set_option maxRecDepth 100000 in
set_option maxHeartbeats 1000000 in
theorem dec_any (k : Nat) : ∀ (n : Nat) (w : World), n < 10 ^ k → n < 1000000000000000000 → Calls Tryz.prog 52 #[.int .i64 n] w (Gives1 w (Lib.decDigits n)) := by
  induction k with
  | zero => intro n w h _; exact dec_lo n (by simp at h; omega) w
  | succ k ih =>
    intro n w h hb
    by_cases hn : n < 10
    · exact dec_lo n hn w
    · have H : Hid (∀ w, Calls Tryz.prog 52 #[.int .i64 ((n : Int) / 10)] w (Gives1 w (Lib.decDigits (n / 10)))) := Lib.hid (fun w => by
        have := ih (n / 10) w (by rw [Nat.pow_succ] at h; omega) (by omega)
        simpa using this)
      have E := Lib.hid (dec_hi2 hn)
      have hsz : (Lib.decDigits (n / 10)).length ≤ 19 := dec_len 18 (n / 10) (by omega)
      clear ih h
      have hge : ¬ (n : Int) < 10 := by omega
      have q1 : IntKind.i64.wrap ((n : Int) / 10) = (n : Int) / 10 := IntWalk.i64_in _ (by omega)
      have q2 : (n : Int).tmod 10 = (n : Int) % 10 := Int.tmod_eq_emod_of_nonneg (by omega)
      have q3 : IntKind.i64.wrap (48 + (n : Int) % 10) = 48 + (n : Int) % 10 := IntWalk.i64_in _ (by omega)
      have q4 : IntKind.u8.wrap (48 + (n : Int) % 10) = 48 + (n : Int) % 10 := IntWalk.u8_in _ (by omega)
      have hcv := fun W => conv_new W (48 + (n : Int) % 10) 5
      have hcv2 := conv_at (w.alloc (.cells #[.int .u8 (48 + (n : Int) % 10)] 5)).drew ⟨w.heap.size, 0, none⟩ (48 + (n : Int) % 10) (by
        show (w.alloc (.cells #[.int .u8 (48 + (n : Int) % 10)] 5)).cell? _ = _
        rw [cell_of_row _ _ _ _ _ _ (heap_alloc_new w _)]; rfl)
      go_enter Tryz.func52, Tryz.ntmps52
      go_wp2_with fail
      go_region_with (go_at_call 52; refine (H.out _).mono ?_; rintro e w2 ⟨rfl, hb2⟩; first | (have hcv3 := conv_at w2 _ _ (keep_new hb2)) | skip)
      all_goals
        go_wp2_with fail
        go_ret
        refine ⟨by rw [E.out, ← ByteArray.mk_append_mk]; simp [Act.put], ?_⟩
        first | exact below_newd hb2 | exact (below_drewd hb2).alloc (below_drewd hb2).size _
end Go.Proofs.YtifioecofeojpaaGreatDoor

/- Two digits; the library writes a number; its table. -/
namespace Go.Proofs.YtifioecofeojpaaGreatDoor
open Go.ChangeShapes Go.WideShapes Go.ChangeAt Go.RowKit
set_option linter.unusedVariables false

/-- Two digits. -/
def two (r : Nat) : List UInt8 := [UInt8.ofNat (48 + r / 10), UInt8.ofNat (48 + r % 10)]
theorem two_lo {r : Nat} (h : r < 10) : 48 :: Lib.decDigits r = two r := by
  rw [Lib.decDigits_one h]; unfold two
  rw [show r / 10 = 0 from by omega, show r % 10 = r from by omega]; rfl
theorem two_hi {r : Nat} (h : ¬ r < 10) (h2 : r < 100) : Lib.decDigits r = two r := Lib.decDigits_two h h2
theorem two_cut {r : Nat} (h : r < 100) : (Lib.decDigits (100 + r)).drop 1 = two r := by
  rw [dec_hi2 (by omega), dec_hi2 (n := (100 + r) / 10) (by omega), Lib.decDigits_one (by omega)]
  unfold two
  rw [show (100 + r) / 10 % 10 = r / 10 from by omega, show (100 + r) % 10 = r % 10 from by omega]
  rfl
theorem str_app (a b : List UInt8) : (⟨a.toArray⟩ : ByteArray) ++ (⟨b.toArray⟩ : ByteArray) = ⟨(a ++ b).toArray⟩ := ByteArray.mk_append_mk ..
theorem str_ext {l : List UInt8} {b e : Nat} : ((⟨l.toArray⟩ : ByteArray).extract b e) = ⟨((l.drop b).take (e - b)).toArray⟩ := by
  apply ByteArray.ext
  apply Array.ext'
  rw [Lib.extract_data]
theorem str_cut {r : Nat} (h : r < 100) : (⟨(Lib.decDigits (100 + r)).toArray⟩ : ByteArray).extract 1 3 = ⟨(two r).toArray⟩ := by
  have hl2 : (Lib.decDigits (100 + r)).length = 3 := by
    rw [dec_hi2 (by omega), dec_hi2 (n := (100 + r) / 10) (by omega), Lib.decDigits_one (by omega)]; rfl
  rw [str_ext, List.take_of_length_le (by rw [List.length_drop]; omega), two_cut h]
/-- The library's table of powers of ten. -/
def Tab (w : World) : Prop := Lib.TabIs Tryz.prog w "internal/strconv.uint64pow10" .u64 Lib.pow10Tab
theorem Tab.below {w w' : World} (h : Tab w) (hb : Below w.heap.size w w') : Tab w' := by
  unfold Tab Lib.TabIs World.var? at *
  cases hg : Tryz.prog.globalNamed "internal/strconv.uint64pow10" with
  | none => simp [hg] at h
  | some g =>
    simp only [hg, Option.bind_some] at h ⊢
    have hlt : g < w.heap.size := by
      rcases Nat.lt_or_ge g w.heap.size with h1 | h1
      · exact h1
      · rw [Array.getElem?_eq_none h1] at h; simp at h
    rw [hb.block g hlt]; exact h

theorem laid_tail {P : Program} {x : String × DataW Unit} {r : List (String × DataW Unit)} {W : World} (h : laidMet P (x :: r) W) : laidMet P r W := by
  obtain ⟨ps, ⟨g, t, cs, fuel, p, q, _, _, _, _, hq, rfl⟩, hn, hr⟩ := h
  exact ⟨q, hq, (List.nodup_append.1 hn).2.1, fun b off hb => hr b off (List.mem_append_right _ hb)⟩
theorem tab_of {r : List (String × DataW Unit)} {w : World} (h : laidMet Tryz.prog (("internal/strconv.uint64pow10", Rows.laid_internal_strconv_uint64pow10) :: r) w) : Tab w :=
  Lib.tabIs_of_head (g := 2) (t := 127) (e := 99) (n := 20) (by kernel_rfl) (by kernel_rfl) Tryz.underlying127 Tryz.underlying99 (by kernel_rfl) (by kernel_rfl) (rest := r) h

theorem fmt_i (u : Nat) (hu : u ≤ 1000000000000000000) (w : World) (ht : Tab w) : Calls Tryz.prog 41 #[.int .i64 u, .int .i64 10] w (Gives1 w (Lib.decDigits u)) := by
  refine (Tryz.strconv_FormatInt_10 u (by omega) (by omega) w ht).mono ?_
  rintro e w' ⟨rfl, k, os, rfl⟩
  exact ⟨by rw [Lib.itoa_nonneg], Lib.below_grow _ _ (Nat.le_refl _) _ _⟩

theorem two_i (r : Nat) (hr : r < 100) (w : World) (ht : Tab w) : Calls Tryz.prog 68 #[.int .i64 r] w (Gives1 w (two r)) := by
  have H1 : Hid (Calls Tryz.prog 41 #[.int .i64 (100 + (r : Int)), .int .i64 10] w (Gives1 w (Lib.decDigits (100 + r)))) := Lib.hid (by
    have := fmt_i (100 + r) (by omega) w ht
    simpa using this)
  have hl2 : (Lib.decDigits (100 + r)).length = 3 := by
    rw [dec_hi2 (by omega), dec_hi2 (n := (100 + r) / 10) (by omega), Lib.decDigits_one (by omega)]; rfl
  have ES := Lib.hid (str_cut hr)
  clear ht
  go_enter Tryz.func68, Tryz.ntmps68
  go_wp2_with fail
  refine (H1.out).mono ?_
  rintro e w1 ⟨rfl, b1⟩
  go_wp2_with fail
  go_ret
  exact ⟨by rw [← ES.out] <;> rfl, b1⟩

def Text2 (w : World) (r : List UInt8 × Int) (e : Ending) (w' : World) : Prop := e = .returned (.tuple #[.string ⟨r.1.toArray⟩, .int .i64 r.2]) ∧ Below w.heap.size w w'
end Go.Proofs.YtifioecofeojpaaGreatDoor

