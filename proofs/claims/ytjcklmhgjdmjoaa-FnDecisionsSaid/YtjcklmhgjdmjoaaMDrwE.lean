import Derived.Test.YtjcklmhgjdmjoaaDrvE
import Derived.Test.YtjcklmhgjdmjoaaMDraw
/- spec.l09DrawClause, DrawClauseText, DrawReadClause. (by gen_drc.py) -/
namespace Go.Proofs.Ytjcklmhgjdmjoaa
open Go.ChangeShapes Go.WideShapes Go.ChangeAt Go.RowKit
set_option linter.unusedVariables false

theorem clsSz : (Try.prog.info? 54).map (·.size) = some 7 := by kernel_rfl
/-- What a drawn clause keeps to. -/
def Dcl (q : Cls) : Prop := q.c.length ≤ 7 ∧ q.t.length ≤ 7
end Go.Proofs.Ytjcklmhgjdmjoaa

/- Drawn amounts. -/
namespace Go.Proofs.Ytjcklmhgjdmjoaa
open Go.ChangeShapes Go.WideShapes Go.ChangeAt Go.RowKit
set_option linter.unusedVariables false

set_option maxHeartbeats 1000000 in
theorem amount_any (g : Nat) (base : Nat) (A : Option Addr) (c : Nat) (bs : List Int) (w : World) (h : Src w base g A c bs) :
    Calls Try.prog 108 #[.pointer (some ⟨g, 0, none⟩)] w (Drew w base g A c bs (-1) 1000000001) := by
  go_enter Try.func108, Try.ntmps108
  go_wp2_with fail
  refine (next_any g _ base A c bs _ h (by omega)).mono ?_
  rintro e w1 ⟨r1, rfl, a1, b1, h1, g1⟩
  go_wp2_with fail
  refine (next_any g _ base A c bs _ h1 (by omega)).mono ?_
  rintro e w2 ⟨r2, rfl, a2, b2, h2, g2⟩
  go_wp2_with fail
  refine (next_any g _ base A c bs _ h2 (by omega)).mono ?_
  rintro e w3 ⟨r3, rfl, a3, b3, h3, g3⟩
  go_wp2_with fail
  refine (next_any g _ base A c bs _ h3 (by omega)).mono ?_
  rintro e w4 ⟨r4, rfl, a4, b4, h4, g4⟩
  go_wp2_with fail
  refine (next_any g _ base A c bs _ h4 (by omega)).mono ?_
  rintro e w5 ⟨r5, rfl, a5, b5, h5, g5⟩
  go_wp2_with fail
  refine (next_any g _ base A c bs _ h5 (by omega)).mono ?_
  rintro e w6 ⟨r6, rfl, a6, b6, h6, g6⟩
  go_wp2_with fail
  refine (pick_new g 10 [r1, r2, r3, 100 * r4, 0, 1, r5, 1000000000, r6 - 1, 1000000001] (-1) 1000000001 base A c bs w6 h6 rfl (by omega) (by omega) ?_).mono ?_
  · intro x hx
    simp only [List.mem_cons, List.not_mem_nil, or_false] at hx
    omega
  rintro e w7 ⟨r7, rfl, a7, b7, h7, g7⟩
  go_wp2_with fail
  go_ret
  exact ⟨r7, rfl, a7, b7, h7, (((((g1.trans g2).trans g3).trans g4).trans g5).trans g6).trans g7⟩
set_option maxHeartbeats 1000000 in
theorem good_any (g : Nat) (base : Nat) (A : Option Addr) (c : Nat) (bs : List Int) (w : World) (h : Src w base g A c bs) :
    Calls Try.prog 106 #[.pointer (some ⟨g, 0, none⟩)] w (Drew w base g A c bs (-1) 1000000001) := by
  go_enter Try.func106, Try.ntmps106
  go_wp2_with fail
  refine (next_any g _ base A c bs _ h (by omega)).mono ?_
  rintro e w1 ⟨r1, rfl, a1, b1, h1, g1⟩
  go_wp2_with fail
  refine (next_any g _ base A c bs _ h1 (by omega)).mono ?_
  rintro e w2 ⟨r2, rfl, a2, b2, h2, g2⟩
  go_wp2_with fail
  refine (next_any g _ base A c bs _ h2 (by omega)).mono ?_
  rintro e w3 ⟨r3, rfl, a3, b3, h3, g3⟩
  go_wp2_with fail
  refine (next_any g _ base A c bs _ h3 (by omega)).mono ?_
  rintro e w4 ⟨r4, rfl, a4, b4, h4, g4⟩
  go_wp2_with fail
  refine (pick_new g 5 [r1, r2, r3, 100 * r4, 0] (-1) 1000000001 base A c bs w4 h4 rfl (by omega) (by omega) ?_).mono ?_
  · intro x hx
    simp only [List.mem_cons, List.not_mem_nil, or_false] at hx
    omega
  rintro e w7 ⟨r7, rfl, a7, b7, h7, g7⟩
  go_wp2_with fail
  go_ret
  exact ⟨r7, rfl, a7, b7, h7, (((g1.trans g2).trans g3).trans g4).trans g7⟩

end Go.Proofs.Ytjcklmhgjdmjoaa

