/- The law of PartyText. -/
import Derived.Test.YtjgagiigpijaiaaDoorPti
import Derived.Test.YtjgagiigpijaiaaDoorBxp
namespace Go.Proofs.YtjgagiigpijaiaaDoor
open Go.ChangeShapes Go.WideShapes Go.ChangeAt Go.RowKit
set_option linter.unusedVariables false

set_option maxHeartbeats 2000000 in
theorem law_FnExactPartyText (p : Pty) (w : World) (v : p.wf) (ht : Tab w) :
    Calls Tryd.prog 7 #[.agg #[.string ⟨p.c.toArray⟩, .int .i64 p.k, .string ⟨p.a.toArray⟩]] w fun e w' => e = .returned (.bool true) ∧ Below w.heap.size w w' := by
  have bB : Below w.heap.size w (w.alloc (.cells #[.string ⟨p.c.toArray⟩, .int .i64 p.k, .string ⟨p.a.toArray⟩] 31)) := (Below.refl _ _).alloc (Nat.le_refl _) _
  have X := BoxPty.new w p
  have HZ := Lib.hid (fun w => szParty_l p 1048576 w (by omega) (by omega) v)
  have c0 := X.cells.c0; have c1 := X.cells.c1; have c2 := X.cells.c2
  by_cases hneg : (1048576 : Int) - (p.sz : Int) < 0
  · rw [if_pos hneg] at HZ
    clear hneg
    go_enter Tryd.func7, Tryd.ntmps7
    go_wp2_with fail
    refine (HZ.out _).mono ?_
    rintro e w1 ⟨rfl, b1⟩
    go_wp2_with fail
    go_ret
    exact ⟨rfl, belowGo bB b1⟩
  · rw [if_neg hneg] at HZ
    have hs : p.sz ≤ 1048576 := by omega
    obtain ⟨m, hm⟩ : ∃ m, m = (1048576 : Int) - (p.sz : Int) := ⟨_, rfl⟩
    rw [← hm] at HZ
    have hm0 : 0 ≤ m := by omega
    have HI := Lib.hid (fun w ht => ptext_i p w hs ht)
    have HS := Lib.hid (fun w => ptext_s p w hs)
    generalize ptR p = r at *
    have e1 : (r.1 == r.1) = true := by simp
    have e2 : (r.2 != r.2) = false := by simp
    clear hneg hm
    go_enter Tryd.func7, Tryd.ntmps7
    go_wp2_with fail
    refine (HZ.out _).mono ?_
    rintro e w1 ⟨rfl, b1⟩
    replace X := X.below b1
    have t1 := belowGo bB b1
    clear c0 c1 c2
    have c0 := X.cells.c0; have c1 := X.cells.c1; have c2 := X.cells.c2
    go_wp2_with fail
    refine (toParty_l p _).mono ?_
    rintro e w2 ⟨rfl, b2⟩
    replace X := X.below b2
    have t2 := belowGo t1 b2
    clear c0 c1 c2
    go_wp2_with fail
    refine (HS.out _).mono ?_
    rintro e w3 ⟨rfl, b3⟩
    replace X := X.below b3
    have t3 := belowGo t2 b3
    have c0 := X.cells.c0; have c1 := X.cells.c1; have c2 := X.cells.c2
    go_wp2_with fail
    refine (toParty_l p _).mono ?_
    rintro e w4 ⟨rfl, b4⟩
    have t4 := belowGo t3 b4
    clear c0 c1 c2
    go_wp2_with fail
    refine (HI.out _ (ht.below t4)).mono ?_
    rintro e w5 ⟨rfl, b5⟩
    go_wp2_with fail
    go_ret
    exact ⟨rfl, belowGo t4 b5⟩
end Go.Proofs.YtjgagiigpijaiaaDoor
