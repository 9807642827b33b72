import Derived.Test.YtjcklmhgjdmjoaaMCal
import Derived.RegionTactic
import Derived.Deep.RegionWith
import Derived.Test.YtjcklmhgjdmjoaaMDraw
/- Dates: copies, comparison, what is valid. -/
namespace Go.Proofs.Ytjcklmhgjdmjoaa
open Go.ChangeShapes Go.WideShapes Go.ChangeAt Go.RowKit
set_option linter.unusedVariables false

/-- What a function that gives a date leaves. -/
def GiveD (w : World) (y m d : Int) (e : Ending) (w' : World) : Prop := e = .returned (.agg #[.int .i64 y, .int .i64 m, .int .i64 d]) ∧ Below w.heap.size w w'
def GiveB (w : World) (b : Bool) (e : Ending) (w' : World) : Prop := e = .returned (.bool b) ∧ Below w.heap.size w w'
theorem below2 (w : World) (o p : Obj) : Below w.heap.size w ((w.alloc o).alloc p) := (below_alloc w o).trans ((below_alloc _ p).mono (by simp))
theorem below3 (w : World) (o p q : Obj) : Below w.heap.size w (((w.alloc o).alloc p).alloc q) := (below2 w o p).trans ((below_alloc _ q).mono (by simp; omega))

end Go.Proofs.Ytjcklmhgjdmjoaa

/- Dates: what is valid. -/
namespace Go.Proofs.Ytjcklmhgjdmjoaa
open Go.ChangeShapes Go.WideShapes Go.ChangeAt Go.RowKit
set_option linter.unusedVariables false

theorem keep3 {W0 w' : World} {g : Nat} {a b c : Value} {t : TypeId} (hb : Below W0.heap.size W0 w') (h : W0.heap[g]? = some (.cells #[a, b, c] t (0, 0))) :
    w'.cell? ⟨g, 0, none⟩ = some a ∧ w'.cell? ⟨g, 1, none⟩ = some b ∧ w'.cell? ⟨g, 2, none⟩ = some c := by
  have hl : g < W0.heap.size := by
    rcases Nat.lt_or_ge g W0.heap.size with hlt | hge
    · exact hlt
    · rw [Array.getElem?_eq_none hge] at h; cases h
  have hh := fun (k : Nat) => hb.cell (p := ⟨g, k, none⟩) hl
  refine ⟨(hh 0).trans ?_, (hh 1).trans ?_, (hh 2).trans ?_⟩ <;> (rw [cell_of_row _ _ _ _ _ _ h]; rfl)

def okD (y m d : Int) : Bool := decide (okd y m d)
theorem okD_iff {y m d : Int} : okD y m d = true ↔ okd y m d := by simp [okD]
theorem okD_made (y m d : Int) : (y == clamp y 1970 2069 && (m == clamp m 1 12 && d == clamp d 1 (dlen (clamp y 1970 2069) (clamp m 1 12)))) = okD y m d := by
  rw [Bool.eq_iff_iff, okD_iff, ← made_iff]; simp
theorem okD_eq {y m d : Int} (a : inr y 1970 2069 = true) (b : inr m 1 12 = true) : inr d 1 (dlen y m) = okD y m d := by
  have ha := inr_iff.1 a
  have hb := inr_iff.1 b
  rw [Bool.eq_iff_iff, okD_iff, inr_iff]
  unfold okd; omega
theorem okD_y {y m d : Int} (a : inr y 1970 2069 = false) : okD y m d = false := by
  have := inr_no.1 a
  rw [Bool.eq_false_iff]; intro h
  have h := okD_iff.1 h
  unfold okd at h; omega
theorem okD_m {y m d : Int} (a : inr m 1 12 = false) : okD y m d = false := by
  have := inr_no.1 a
  rw [Bool.eq_false_iff]; intro h
  have h := okD_iff.1 h
  unfold okd at h; omega
end Go.Proofs.Ytjcklmhgjdmjoaa

/- A block of three cells. -/
namespace Go.Proofs.Ytjcklmhgjdmjoaa
open Go.ChangeShapes Go.WideShapes Go.ChangeAt Go.RowKit
set_option linter.unusedVariables false

theorem lt_of_some {wr : World} {g : Nat} {o : Obj} (h : wr.heap[g]? = some o) : g < wr.heap.size := by
  rcases Nat.lt_or_ge g wr.heap.size with hlt | hge
  · exact hlt
  · rw [Array.getElem?_eq_none hge] at h; cases h
theorem keep6 {W0 w' : World} {g : Nat} {a b c : Value} {t : TypeId} (hb : Below W0.heap.size W0 w') (h : W0.heap[g]? = some (.cells #[a, b, c] t (0, 0))) :
    w'.heap[g]? = some (.cells #[a, b, c] t (0, 0)) ∧ w'.cell? ⟨g, 0, none⟩ = some a ∧ w'.cell? ⟨g, 1, none⟩ = some b ∧ w'.cell? ⟨g, 2, none⟩ = some c ∧
    w'.frozen? ⟨g, 0, none⟩ = false ∧ w'.frozen? ⟨g, 1, none⟩ = false ∧ w'.frozen? ⟨g, 2, none⟩ = false := by
  have h1 := (hb.block _ (lt_of_some h)).trans h
  obtain ⟨c0, c1, c2⟩ := keep3 hb h
  exact ⟨h1, c0, c1, c2, frozen_of_row w' _ 0 _ _ h1, frozen_of_row w' _ 1 _ _ h1, frozen_of_row w' _ 2 _ _ h1⟩
theorem done3 {w1 : World} {g : Nat} {x y z : Value} {t : TypeId} (h : w1.heap[g]? = some (.cells #[x, y, z] t (0, 0))) (a b c : Value) :
    ∃ W, (((w1.setCell ⟨g, 0, none⟩ a).setCell ⟨g, 1, none⟩ b).setCell ⟨g, 2, none⟩ c) = W ∧
      W.cell? ⟨g, 0, none⟩ = some a ∧ W.cell? ⟨g, 1, none⟩ = some b ∧ W.cell? ⟨g, 2, none⟩ = some c ∧ ∀ (B : Nat) (w : World), B ≤ g → Below B w w1 → Below B w W := by
  refine ⟨_, rfl, ?_⟩
  have h2 : (w1.setCell ⟨g, 0, none⟩ a).heap[g]? = some (.cells #[a, y, z] t (0, 0)) := by
    rw [heap_setCell_same _ _ _ _ _ _ h]; rfl
  have h3 : ((w1.setCell ⟨g, 0, none⟩ a).setCell ⟨g, 1, none⟩ b).heap[g]? = some (.cells #[a, b, z] t (0, 0)) := by
    rw [heap_setCell_same _ _ _ _ _ _ h2]; rfl
  have h4 : (((w1.setCell ⟨g, 0, none⟩ a).setCell ⟨g, 1, none⟩ b).setCell ⟨g, 2, none⟩ c).heap[g]? = some (.cells #[a, b, c] t (0, 0)) := by
    rw [heap_setCell_same _ _ _ _ _ _ h3]; rfl
  refine ⟨?_, ?_, ?_, fun B w hB hb => ((hb.setCell (by simpa using hB) _).setCell (by simpa using hB) _).setCell (by simpa using hB) _⟩ <;>
    (rw [cell_of_row _ _ _ _ _ _ h4]; rfl)

end Go.Proofs.Ytjcklmhgjdmjoaa

/- spec.l02Date: the date with a number. -/
namespace Go.Proofs.Ytjcklmhgjdmjoaa
open Go.ChangeShapes Go.WideShapes Go.ChangeAt Go.RowKit
set_option linter.unusedVariables false

def GiveN (w : World) (n : Int) (e : Ending) (w' : World) : Prop :=
  ∃ y m d : Int, e = .returned (.agg #[.int .i64 y, .int .i64 m, .int .i64 d]) ∧ okd y m d ∧ numd y m d = n ∧ Below w.heap.size w w'

theorem okd_of {y m r n : Int} (y0 : 1970 ≤ y) (y1 : y ≤ 2069) (m0 : 1 ≤ m) (m1 : m ≤ 12) (hr : n = start y + cum y m + r) (r0 : 0 ≤ r) (r1 : r < dlen y m) : okd y m (r + 1) ∧ numd y m (r + 1) = n :=
  ⟨⟨y0, y1, m0, m1, by omega, by omega⟩, by unfold numd; omega⟩
theorem month_in {y m n : Int} (y0 : 1970 ≤ y) (m1 : m ≤ 12) (h : start y + cum y m + dlen y m ≤ n) (hn : n < start (y + 1)) : m < 12 := by
  by_cases h12 : m = 12
  · subst h12
    have := cum_end y y0
    have : dlen y 12 = 31 := by simp [dlen]
    omega
  · omega
theorem year_in {y n : Int} (h : start (y + 1) ≤ n) (hn : n ≤ 36524) : y < 2069 := by
  by_cases hy : 2069 ≤ y
  · have := start_mono (show 2070 ≤ y + 1 by omega)
    rw [start_end] at this; omega
  · omega

end Go.Proofs.Ytjcklmhgjdmjoaa

/- Drawn dates. -/
namespace Go.Proofs.Ytjcklmhgjdmjoaa
open Go.ChangeShapes Go.WideShapes Go.ChangeAt Go.RowKit
set_option linter.unusedVariables false

theorem cells6 {w : World} {g : Nat} {a b c : Value} {t : TypeId} (h : w.heap[g]? = some (.cells #[a, b, c] t (0, 0))) :
    w.cell? ⟨g, 0, none⟩ = some a ∧ w.cell? ⟨g, 1, none⟩ = some b ∧ w.cell? ⟨g, 2, none⟩ = some c ∧
    w.frozen? ⟨g, 0, none⟩ = false ∧ w.frozen? ⟨g, 1, none⟩ = false ∧ w.frozen? ⟨g, 2, none⟩ = false := (keep6 (Below.refl _ _) h).2
def DrewD (w : World) (base g : Nat) (A : Option Addr) (c : Nat) (bs : List Int) (e : Ending) (w' : World) : Prop :=
  ∃ y m d : Int, e = .returned (.agg #[.int .i64 y, .int .i64 m, .int .i64 d]) ∧ Src w' base g A c bs ∧ w.grownBy w' (some g)
def DrewOk (w : World) (base g : Nat) (A : Option Addr) (c : Nat) (bs : List Int) (e : Ending) (w' : World) : Prop :=
  ∃ y m d : Int, e = .returned (.agg #[.int .i64 y, .int .i64 m, .int .i64 d]) ∧ okd y m d ∧ Src w' base g A c bs ∧ w.grownBy w' (some g)

end Go.Proofs.Ytjcklmhgjdmjoaa

/- Weekdays and business days. -/
namespace Go.Proofs.Ytjcklmhgjdmjoaa
open Go.ChangeShapes Go.WideShapes Go.ChangeAt Go.RowKit
set_option linter.unusedVariables false

def wdR (n : Int) : Int × Int := if inr n 0 36524 = true then ((n + 3) % 7, 0) else (0, 2)
theorem wdR_ok {n : Int} (h : inr n 0 36524 = true) : wdR n = ((n + 3) % 7, 0) := by simp [wdR, h]
theorem wdR_no {n : Int} (h : inr n 0 36524 = false) : wdR n = (0, 2) := by simp [wdR, h]
/-! ### the next business days -/
def busA (n : Int) : Int := if 5 ≤ (n + 3) % 7 then 0 else (n + 3) % 7
def busM (n : Int) : Int := if 5 ≤ (n + 3) % 7 then n - (n + 3) % 7 + 7 else n - (n + 3) % 7
theorem bus_facts (n : Int) : (busM n + 3) % 7 = 0 ∧ 0 ≤ busA n ∧ busA n ≤ 4 ∧ n ≤ busM n + busA n ∧ busM n + busA n ≤ n + 2 ∧ (n < busM n + busA n → busA n = 0) := by
  unfold busM busA; split <;> omega
theorem bday_0 {m a : Int} (h0 : 0 ≤ a) (h : a ≤ 4) : bday m a = m + a := by unfold bday; omega
def busR (n k : Int) : Int := bday (busM n) (busA n + k)
theorem busR_in {n k : Int} (h0 : 0 ≤ n) (h1 : n ≤ 36524) (k0 : 0 ≤ k) (k1 : k ≤ 1000) : n + k ≤ busR n k ∧ busR n k ≤ 100000 := by
  obtain ⟨_, a, b, c, d, _⟩ := bus_facts n
  unfold busR bday; omega
theorem busR_wd {n k : Int} (k0 : 0 ≤ k) : (busR n k + 3) % 7 ≤ 4 := by
  obtain ⟨e, a, b, c, d, _⟩ := bus_facts n
  unfold busR; rw [bday_wd e (by omega)]; omega
theorem busR_0 (n : Int) : n ≤ busR n 0 ∧ busR n 0 ≤ n + 2 ∧ (n < busR n 0 → (busR n 0 + 3) % 7 = 0) := by
  obtain ⟨e, a, b, c, d, f⟩ := bus_facts n
  have h : busR n 0 = busM n + busA n := by unfold busR; rw [Int.add_zero, bday_0 a b]
  rw [h]; omega
theorem busR_step {n k : Int} (k0 : 0 ≤ k) : busR n k + 1 ≤ busR n (k + 1) ∧ busR n (k + 1) ≤ busR n k + 1 + 2 ∧ (busR n k + 1 < busR n (k + 1) → (busR n (k + 1) + 3) % 7 = 0) := by
  obtain ⟨e, a, b, c, d, f⟩ := bus_facts n
  have h1 := bday_wd (mon := busM n) (a := busA n + (k + 1)) e (by omega)
  unfold busR
  unfold bday at *
  omega

/-- What NextBusinessDay answers. -/
def nbdR (n k : Int) : Int × Int := if inr n 0 36524 = true ∧ inr k 0 1000 = true then if inr (busR n k) 0 36524 = true then (busR n k, 0) else (0, 3) else (0, 2)
theorem nbdR_n {n k : Int} (h : inr n 0 36524 = false) : nbdR n k = (0, 2) := by simp [nbdR, h]
theorem nbdR_k {n k : Int} (h : inr k 0 1000 = false) : nbdR n k = (0, 2) := by simp [nbdR, h]
theorem nbdR_ok {n k : Int} (h : inr n 0 36524 = true) (h' : inr k 0 1000 = true) (g : inr (busR n k) 0 36524 = true) : nbdR n k = (busR n k, 0) := by simp [nbdR, h, h', g]
theorem nbdR_big {n k : Int} (h : inr n 0 36524 = true) (h' : inr k 0 1000 = true) (g : inr (busR n k) 0 36524 = false) : nbdR n k = (0, 3) := by simp [nbdR, h, h', g]
theorem busR_lo {n k : Int} (h : 5 ≤ (n + 3) % 7) : n - (n + 3) % 7 + 7 + k / 5 * 7 + k % 5 = busR n k := by
  unfold busR busM busA bday; rw [if_pos h, if_pos h]; simp
theorem busR_hi {n k : Int} (h : ¬ 5 ≤ (n + 3) % 7) : n - (n + 3) % 7 + ((n + 3) % 7 + k) / 5 * 7 + ((n + 3) % 7 + k) % 5 = busR n k := by
  unfold busR busM busA bday; rw [if_neg h, if_neg h]

end Go.Proofs.Ytjcklmhgjdmjoaa

/- laws.eqDate compares dates. -/
namespace Go.Proofs.Ytjcklmhgjdmjoaa
open Go.ChangeShapes Go.WideShapes Go.ChangeAt Go.RowKit
set_option linter.unusedVariables false

end Go.Proofs.Ytjcklmhgjdmjoaa

/- DateOf: the date with a number. -/
namespace Go.Proofs.Ytjcklmhgjdmjoaa
open Go.ChangeShapes Go.WideShapes Go.ChangeAt Go.RowKit
set_option linter.unusedVariables false

/-- What DateOf answers: the date with this number, or none. -/
def DN (n y m d c : Int) : Prop := (inr n 0 36524 = true ∧ c = 0 ∧ okd y m d ∧ numd y m d = n) ∨ (inr n 0 36524 = false ∧ c = 2 ∧ y = 0 ∧ m = 0 ∧ d = 0)
theorem DN.same {n y m d c y' m' d' c' : Int} (h : DN n y m d c) (h' : DN n y' m' d' c') : y' = y ∧ m' = m ∧ d' = d ∧ c' = c := by
  rcases h with ⟨a1, rfl, a3, a4⟩ | ⟨a1, rfl, rfl, rfl, rfl⟩
  · rcases h' with ⟨_, rfl, a3', a4'⟩ | ⟨a1', _⟩
    · obtain ⟨rfl, rfl, rfl⟩ := numd_inj a3 a3' (a4.trans a4'.symm)
      exact ⟨rfl, rfl, rfl, rfl⟩
    · rw [a1] at a1'; cases a1'
  · rcases h' with ⟨a1', _⟩ | ⟨_, rfl, rfl, rfl, rfl⟩
    · rw [a1] at a1'; cases a1'
    · exact ⟨rfl, rfl, rfl, rfl⟩
def GiveDN (w : World) (n : Int) (e : Ending) (w' : World) : Prop :=
  ∃ y m d c : Int, e = .returned (.tuple #[.agg #[.int .i64 y, .int .i64 m, .int .i64 d], .int .i64 c]) ∧ Below w.heap.size w w' ∧
    DN n y m d c
def boxI (w : World) (g : Nat) : Int := match w.cell? ⟨g, 0, none⟩ with
  | some v => intOf v
  | none => 0
theorem okd_of2 {y m r n : Int} (y0 : 1970 ≤ y) (y1 : y ≤ 2069) (m0 : 1 ≤ m) (m1 : m ≤ 12) (hr : n = start y + cum y m + r) (r0 : 0 ≤ r) (r1 : r < dlen y m) : okd y m (1 + r) ∧ numd y m (1 + r) = n := by
  rw [Int.add_comm]; exact okd_of y0 y1 m0 m1 hr r0 r1

end Go.Proofs.Ytjcklmhgjdmjoaa

/- The draws of FnDays. -/
namespace Go.Proofs.Ytjcklmhgjdmjoaa
open Go.ChangeShapes Go.WideShapes Go.ChangeAt Go.RowKit
set_option linter.unusedVariables false

def DrawnD (w : World) (e : Ending) (w' : World) : Prop := ∃ y m d : Int, e = .returned (.agg #[.int .i64 y, .int .i64 m, .int .i64 d]) ∧ Below w.heap.size w w'
def DrawnI (w : World) (e : Ending) (w' : World) : Prop := ∃ n : Int, e = .returned (.int .i64 n) ∧ Below w.heap.size w w'
def DrawnII (w : World) (e : Ending) (w' : World) : Prop := ∃ n k : Int, e = .returned (.tuple #[.int .i64 n, .int .i64 k]) ∧ Below w.heap.size w w'

theorem day_any (g : Nat) (base : Nat) (A : Option Addr) (c : Nat) (bs : List Int) (w : World) (h : Src w base g A c bs) :
    Calls Try.prog 109 #[.pointer (some ⟨g, 0, none⟩)] w (Drew w base g A c bs (-1) 36525) := by
  go_enter Try.func109, Try.ntmps109
  go_wp2_with fail
  refine (next_any g _ base A c bs _ h (by omega)).mono ?_
  rintro e w1 ⟨r1, rfl, a1, b1, h1, g1⟩
  go_wp2_with fail
  refine (next_any g _ base A c bs _ h1 (by omega)).mono ?_
  rintro e w2 ⟨r2, rfl, a2, b2, h2, g2⟩
  go_wp2_with fail
  refine (next_any g _ base A c bs _ h2 (by omega)).mono ?_
  rintro e w3 ⟨r3, rfl, a3, b3, h3, g3⟩
  go_wp2_with fail
  refine (next_any g _ base A c bs _ h3 (by omega)).mono ?_
  rintro e w4 ⟨r4, rfl, a4, b4, h4, g4⟩
  go_wp2_with fail
  refine (pick_new g 8 [r1, 18000 + r2, 0, 36524, 36525, -1, 18000 + r3, 18000 + r4] (-1) 36525 base A c bs w4 h4 rfl (by omega) (by omega) ?_).mono ?_
  · intro x hx
    simp only [List.mem_cons, List.not_mem_nil, or_false] at hx
    omega
  rintro e w7 ⟨r7, rfl, a7, b7, h7, g7⟩
  go_wp2_with fail
  go_ret
  exact ⟨r7, rfl, a7, b7, h7, (((g1.trans g2).trans g3).trans g4).trans g7⟩

theorem big_s (A : Option Addr) (c : Nat) (bs : List Int) (w : World) (hm : bs.length ≤ maxLen) :
    Calls Try.prog 13 #[.slice A bs.length c] w fun e w' => e = .returned (.bool (decide (4096 < bs.length))) ∧ w = w' := by
  have hm2 : bs.length ≤ 9223372036854775807 := by unfold maxLen at hm; omega
  have E : Hid (decide (4096 < (bs.length : Int)) = decide (4096 < bs.length)) := Lib.hid (by rw [decide_eq_decide]; omega)
  go_enter Try.func13, Try.ntmps13
  go_wp2_with fail
  go_ret
  exact ⟨by rw [← E.out] <;> rfl, rfl⟩
end Go.Proofs.Ytjcklmhgjdmjoaa

