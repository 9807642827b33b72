import Derived.Test.YtaehkkcaoniphaaPg
import Derived.Test.YtaehkkcaoniphaaShelf
import Derived.Shelf.Spec.BitsCarry
import Derived.Deep.QuietTactic
import Derived.BigQuiet
/- The draws of chapter 3: the arguments of its functions. -/
namespace Go.Proofs.Ytaehkkcaoniphaa
open Go.ChangeShapes Go.WideShapes Go.ChangeAt Go.RowKit
set_option linter.unusedVariables false

def DrawnRO (w : World) (e : Ending) (w' : World) : Prop :=
  ∃ (B : Option Addr) (d : Nat) (rs : List Rt) (s : List UInt8) (y : Int), e = .returned (.tuple #[.slice B rs.length d, .string ⟨s.toArray⟩, .int .i64 y]) ∧ Drt w' w.heap.size B d rs ∧ s.length ≤ 3 ∧ Below w.heap.size w w'
def DrawnCA (w : World) (e : Ending) (w' : World) : Prop :=
  ∃ (B : Option Addr) (d : Nat) (rs : List Rt) (s t : List UInt8) (y m : Int), e = .returned (.tuple #[.slice B rs.length d, .string ⟨s.toArray⟩, .string ⟨t.toArray⟩, .int .i64 y, .int .i64 m]) ∧ Drt w' w.heap.size B d rs ∧ s.length ≤ 3 ∧ t.length ≤ 3 ∧ -1 ≤ m ∧ m ≤ 1000000001 ∧ Below w.heap.size w w'
def DrawnAR (w : World) (e : Ending) (w' : World) : Prop :=
  ∃ (B : Option Addr) (d : Nat) (rs : List Rt) (q : Rt), e = .returned (.tuple #[.slice B rs.length d, .agg #[.string ⟨q.c.toArray⟩, .int .i64 q.day, .int .i64 q.num, .int .i64 q.den]]) ∧ Drt w' w.heap.size B d rs ∧ q.c.length ≤ 3 ∧ Below w.heap.size w w'
def DrawnCU (w : World) (e : Ending) (w' : World) : Prop :=
  ∃ (B : Option Addr) (d : Nat) (rs : List Rt), e = .returned (.slice B rs.length d) ∧ Drt w' w.heap.size B d rs ∧ Below w.heap.size w w'
def DrawnCR (w : World) (e : Ending) (w' : World) : Prop :=
  ∃ (B : Option Addr) (d : Nat) (rs : List Rt) (s t : List UInt8) (y : Int), e = .returned (.tuple #[.slice B rs.length d, .string ⟨s.toArray⟩, .string ⟨t.toArray⟩, .int .i64 y]) ∧ Drt w' w.heap.size B d rs ∧ s.length ≤ 3 ∧ t.length ≤ 3 ∧ Below w.heap.size w w'
def DrawnDW (w : World) (e : Ending) (w' : World) : Prop :=
  ∃ (B : Option Addr) (d : Nat) (rs : List Rt) (s : List UInt8), e = .returned (.tuple #[.slice B rs.length d, .string ⟨s.toArray⟩]) ∧ Drt w' w.heap.size B d rs ∧ s.length ≤ 3 ∧ Below w.heap.size w w'
def DrawnIC (w : World) (e : Ending) (w' : World) : Prop :=
  ∃ (s : List UInt8), e = .returned (.string ⟨s.toArray⟩) ∧ s.length ≤ 3 ∧ Below w.heap.size w w'

set_option maxHeartbeats 1000000 in
theorem drawRO (A : Option Addr) (c : Nat) (bs : List Int) (w : World) (h : Code0 w A bs) : Calls Try.prog 13 #[.slice A bs.length c] w (DrawnRO w) := by
  go_enter Try.func13, Try.ntmps13
  go_wp2_with fail
  refine (code_from A c bs _ h).mono ?_
  rintro e w1 ⟨g, rfl, s1, b1⟩
  have hg := s1.lt
  go_wp2_with fail
  refine (draw_rt g _ A c bs _ s1).mono ?_
  rintro e w2 ⟨B, d, rs, rfl, d2, s2, g2⟩
  go_wp2_with fail
  refine (code_any g _ A c bs _ s2).mono ?_
  rintro e w3 ⟨s, rfl, l3, s3, g3⟩
  go_wp2_with fail
  refine (cday_any g _ A c bs _ s3).mono ?_
  rintro e w4 ⟨r4, rfl, a4, e4, s4, g4⟩
  have d4 := ((d2.src g3 hg).src g4 hg).low b1.size
  have G := (g2.trans g3).trans g4
  go_wp2_with fail
  refine bodyPost_ret (v := .tuple #[.slice B rs.length d, .string ⟨s.toArray⟩, .int .i64 r4]) (by simp [results, Try.results13, go_sem]) rfl ?_
  exact ⟨B, d, rs, s, r4, rfl, d4, l3, src_below b1 G s1.1⟩
set_option maxHeartbeats 1000000 in
theorem drawCA (A : Option Addr) (c : Nat) (bs : List Int) (w : World) (h : Code0 w A bs) : Calls Try.prog 7 #[.slice A bs.length c] w (DrawnCA w) := by
  go_enter Try.func7, Try.ntmps7
  go_wp2_with fail
  refine (code_from A c bs _ h).mono ?_
  rintro e w1 ⟨g, rfl, s1, b1⟩
  have hg := s1.lt
  go_wp2_with fail
  refine (draw_rt g _ A c bs _ s1).mono ?_
  rintro e w2 ⟨B, d, rs, rfl, d2, s2, g2⟩
  go_wp2_with fail
  refine (code_any g _ A c bs _ s2).mono ?_
  rintro e w3 ⟨s, rfl, l3, s3, g3⟩
  go_wp2_with fail
  refine (code_any g _ A c bs _ s3).mono ?_
  rintro e w4 ⟨t, rfl, l4, s4, g4⟩
  go_wp2_with fail
  refine (cday_any g _ A c bs _ s4).mono ?_
  rintro e w5 ⟨r5, rfl, a5, e5, s5, g5⟩
  go_wp2_with fail
  refine (amount_any g _ A c bs _ s5).mono ?_
  rintro e w6 ⟨r6, rfl, a6, e6, s6, g6⟩
  have d6 := ((((d2.src g3 hg).src g4 hg).src g5 hg).src g6 hg).low b1.size
  have G := (((g2.trans g3).trans g4).trans g5).trans g6
  go_wp2_with fail
  refine bodyPost_ret (v := .tuple #[.slice B rs.length d, .string ⟨s.toArray⟩, .string ⟨t.toArray⟩, .int .i64 r5, .int .i64 r6]) (by simp [results, Try.results7, go_sem]) rfl ?_
  exact ⟨B, d, rs, s, t, r5, r6, rfl, d6, l3, l4, a6, e6, src_below b1 G s1.1⟩
theorem results_tmp_cell_row {P : Program} {fn : Func} {p u : Tmp} {ty : TypeId} (h : fn.results = #[.tmp u, .cell p ty]) (tmps : Array Value) (w : World) (g : Nat) (t : TypeId) (cs : Array Value) (fr : Nat × Nat) (d : TypeDesc)
    (hp : tmps.getD p undef = .pointer (some ⟨g, 0, none⟩)) (hg : w.heap[g]? = some (.cells cs t fr))
    (hu : P.underlying ty = some d) (hd : (match d with | .struct _ | .array _ _ => true | _ => false) = true) (hi : (P.info? ty).map (·.size) = some cs.size) :
    (results fn tmps).run P w = .ok (.tuple #[tmps.getD u undef, .agg cs]) w := by
  have hp' : tmps[p]?.getD undef = .pointer (some ⟨g, 0, none⟩) := by simpa using hp
  simp [results, h, hp', asAddr, run_loadVar_row w g t ty cs fr d hg hu hd hi, Sem.run_bind, Result.andThen]
theorem Drt.put4 {w : World} {lo d R : Nat} {B : Option Addr} {rs : List Rt} (h : Drt w lo B d rs) (hR : R < lo) (a b e f : Value) :
    Drt ((((w.setCell ⟨R, 0, none⟩ a).setCell ⟨R, 1, none⟩ b).setCell ⟨R, 2, none⟩ e).setCell ⟨R, 3, none⟩ f) lo B d rs :=
  ⟨h.1, ownsRow_setCell_below (ownsRow_setCell_below (ownsRow_setCell_below (ownsRow_setCell_below h.2.1 (a := ⟨R, 0, none⟩) hR a) (a := ⟨R, 1, none⟩) hR b) (a := ⟨R, 2, none⟩) hR e) (a := ⟨R, 3, none⟩) hR f, h.2.2⟩
theorem row_put4 {W : World} {R : Nat} {x0 x1 x2 x3 : Value} (h : W.heap[R]? = some (.cells #[x0, x1, x2, x3] 30 (0, 0))) (a b e f : Value) :
    ((((W.setCell ⟨R, 0, none⟩ a).setCell ⟨R, 1, none⟩ b).setCell ⟨R, 2, none⟩ e).setCell ⟨R, 3, none⟩ f).heap[R]? = some (.cells #[a, b, e, f] 30 (0, 0)) := by
  have h1 : (W.setCell ⟨R, 0, none⟩ a).heap[R]? = some (.cells #[a, x1, x2, x3] 30 (0, 0)) := by rw [heap_setCell_same W R 0 _ _ _ h]; rfl
  have h2 : ((W.setCell ⟨R, 0, none⟩ a).setCell ⟨R, 1, none⟩ b).heap[R]? = some (.cells #[a, b, x2, x3] 30 (0, 0)) := by rw [heap_setCell_same _ R 1 _ _ _ h1]; rfl
  have h3 : (((W.setCell ⟨R, 0, none⟩ a).setCell ⟨R, 1, none⟩ b).setCell ⟨R, 2, none⟩ e).heap[R]? = some (.cells #[a, b, e, x3] 30 (0, 0)) := by rw [heap_setCell_same _ R 2 _ _ _ h2]; rfl
  rw [heap_setCell_same _ R 3 _ _ _ h3]; rfl
theorem below_put4 {n R : Nat} {w W : World} (h : Below n w W) (hR : n ≤ R) (a b e f : Value) : Below n w ((((W.setCell ⟨R, 0, none⟩ a).setCell ⟨R, 1, none⟩ b).setCell ⟨R, 2, none⟩ e).setCell ⟨R, 3, none⟩ f) :=
  (((h.setCell (p := ⟨R, 0, none⟩) hR _).setCell (p := ⟨R, 1, none⟩) hR _).setCell (p := ⟨R, 2, none⟩) hR _).setCell (p := ⟨R, 3, none⟩) hR _
set_option maxHeartbeats 1000000 in
theorem drawAR (A : Option Addr) (c : Nat) (bs : List Int) (w : World) (h : Code0 w A bs) : Calls Try.prog 10 #[.slice A bs.length c] w (DrawnAR w) := by
  have kb := KeepB.new w #[.string ⟨#[]⟩, .int .i64 0, .int .i64 0, .int .i64 0] 30
  go_enter Try.func10, Try.ntmps10
  go_wp2_with fail
  refine (code_from A c bs _ (h.below kb.bel)).mono ?_
  rintro e w1 ⟨g, rfl, s1, b1⟩
  have hg := s1.lt
  have hRg : w.heap.size < g := by have := s1.1; simp only [World.size_alloc] at this; omega
  have kb1 := kb.step b1
  clear kb b1
  go_wp2_with fail
  refine (draw_rt g _ A c bs _ s1).mono ?_
  rintro e w2 ⟨B, d, rs, rfl, d2, s2, g2⟩
  go_wp2_with fail
  refine (rate_any g _ A c bs _ s2).mono ?_
  rintro e w3 ⟨q, rfl, l3, s3, g3⟩
  have d3 := d2.src g3 hg
  have G := g2.trans g3
  have hR3 := keepG G kb1.a (by omega)
  have hb3 : Below w.heap.size w w3 := src_below kb1.bel G (by omega)
  have hD := Lib.hid ((d3.put4 (R := w.heap.size) (by omega) (.string ⟨q.c.toArray⟩) (.int .i64 q.day) (.int .i64 q.num) (.int .i64 q.den)).low kb1.bel.size)
  have hB := Lib.hid (below_put4 hb3 (Nat.le_refl _) (.string ⟨q.c.toArray⟩) (.int .i64 q.day) (.int .i64 q.num) (.int .i64 q.den))
  have hE := Lib.hid (row_put4 hR3 (.string ⟨q.c.toArray⟩) (.int .i64 q.day) (.int .i64 q.num) (.int .i64 q.den))
  obtain ⟨r0, r1, r2, r3, f0, f1, f2, f3⟩ := row4_at hR3
  clear d3 G hR3 hb3 kb1 d2 s3 g3 g2 s2 s1
  go_wp2_with fail
  refine bodyPost_ret (v := .tuple #[.slice B rs.length d, .agg #[.string ⟨q.c.toArray⟩, .int .i64 q.day, .int .i64 q.num, .int .i64 q.den]]) ?_ ?_ ?_
  · exact results_tmp_cell_row (p := 3) (u := 2) rfl _ _ w.heap.size 30 _ (0, 0) _ rfl hE.out Try.underlying30 rfl rateSz
  · rfl
  · exact ⟨B, d, rs, q, rfl, hD.out, l3, hB.out⟩
set_option maxHeartbeats 1000000 in
theorem drawCU (A : Option Addr) (c : Nat) (bs : List Int) (w : World) (h : Code0 w A bs) : Calls Try.prog 21 #[.slice A bs.length c] w (DrawnCU w) := by
  go_enter Try.func21, Try.ntmps21
  go_wp2_with fail
  refine (code_from A c bs _ h).mono ?_
  rintro e w1 ⟨g, rfl, s1, b1⟩
  go_wp2_with fail
  refine (draw_rt g _ A c bs _ s1).mono ?_
  rintro e w2 ⟨B, d, rs, rfl, d2, s2, g2⟩
  go_wp2_with fail
  go_ret
  exact ⟨B, d, rs, rfl, d2.low b1.size, src_below b1 g2 s1.1⟩
set_option maxHeartbeats 1000000 in
theorem drawCR (A : Option Addr) (c : Nat) (bs : List Int) (w : World) (h : Code0 w A bs) : Calls Try.prog 19 #[.slice A bs.length c] w (DrawnCR w) := by
  go_enter Try.func19, Try.ntmps19
  go_wp2_with fail
  refine (drawCA A c bs _ h).mono ?_
  rintro e w1 ⟨B, d, rs, s, t, y, m, rfl, d1, ls, lt, m0, m1, b1⟩
  go_wp2_with fail
  refine bodyPost_ret (v := .tuple #[.slice B rs.length d, .string ⟨s.toArray⟩, .string ⟨t.toArray⟩, .int .i64 y]) (by simp [results, Try.results19, go_sem]) rfl ?_
  exact ⟨B, d, rs, s, t, y, rfl, d1, ls, lt, b1⟩
set_option maxHeartbeats 1000000 in
theorem drawDR (A : Option Addr) (c : Nat) (bs : List Int) (w : World) (h : Code0 w A bs) : Calls Try.prog 24 #[.slice A bs.length c] w (DrawnDW w) := by
  go_enter Try.func24, Try.ntmps24
  go_wp2_with fail
  refine (drawRO A c bs _ h).mono ?_
  rintro e w1 ⟨B, d, rs, s, y, rfl, d1, ls, b1⟩
  go_wp2_with fail
  refine bodyPost_ret (v := .tuple #[.slice B rs.length d, .string ⟨s.toArray⟩]) (by simp [results, Try.results24, go_sem]) rfl ?_
  exact ⟨B, d, rs, s, rfl, d1, ls, b1⟩
set_option maxHeartbeats 1000000 in
theorem drawIC (A : Option Addr) (c : Nat) (bs : List Int) (w : World) (h : Code0 w A bs) : Calls Try.prog 27 #[.slice A bs.length c] w (DrawnIC w) := by
  go_enter Try.func27, Try.ntmps27
  go_wp2_with fail
  refine (code_from A c bs _ h).mono ?_
  rintro e w1 ⟨g, rfl, s1, b1⟩
  go_wp2_with fail
  refine (code_any g _ A c bs _ s1).mono ?_
  rintro e w2 ⟨s, rfl, l2, s2, g2⟩
  go_wp2_with fail
  go_ret
  exact ⟨s, rfl, l2, src_below b1 g2 s1.1⟩
end Go.Proofs.Ytaehkkcaoniphaa

/- Like slices: lists of rates, texts, numbers that are the same. -/
namespace Go.Proofs.Ytaehkkcaoniphaa
open Go.ChangeShapes Go.WideShapes Go.ChangeAt Go.RowKit
set_option linter.unusedVariables false

set_option maxHeartbeats 1000000 in
theorem likeR (A B : Option Addr) (c d : Nat) (rs : List Rt) (w : World) (hx : Rr w A rs) (hy : Rr w B rs) (hn : rs.length ≤ 1000000000) :
    Calls Try.prog 16 #[.slice A rs.length c, .slice B rs.length d] w fun e w' => e = .returned (.bool true) ∧ Below w.heap.size w w' := by
  have hl1 : ((rs.length : Int) != rs.length) = false := by simp
  go_enter Try.func16, Try.ntmps16
  go_wp2_with fail
  go_loopw [5] (fun i wr => ∃ k : Nat, k ≤ rs.length ∧ i = .int .i64 k ∧ ∃ n, wr = w.drewN n) (fun i _ => rs.length - (intOf i).toNat)
  case atStart => exact ⟨0, Nat.zero_le _, rfl, 0, rfl⟩
  case round =>
    obtain ⟨k, hk, rfl, n, rfl⟩ := hrel
    by_cases hlt : k < rs.length
    · obtain ⟨b, off, r, rfl, hbl, hrk, hc⟩ := hx.four hlt
      obtain ⟨b2, off2, r2, rfl, hbl2, hrk2, hc2⟩ := hy.four hlt
      have : r = r2 := by have := hrk.out.symm.trans hrk2.out; simpa using this
      subst this
      obtain ⟨c0, c1, c2, c3⟩ := hc
      obtain ⟨d0, d1, d2, d3⟩ := hc2
      clear hx hy hl1
      go_wp2_with fail
      go_quiet (fail)
      go_wp2_with fail
      go_roundw
      case rel => exact ⟨k + 1, by omega, by go_num, _, rfl⟩
      case measure => simp [intOf]; omega
    · go_wp2_with fail
      go_ret
      exact ⟨rfl, below_drewN _ _⟩

set_option maxHeartbeats 1000000 in
theorem likeT (A B : Option Addr) (n m c d : Nat) (ws : List (List UInt8)) (w : World) (hx : Sr w A ws) (hy : Sr w B ws) (hn : ws.length = n) (hm : ws.length = m) (hb : n ≤ 1000000000) :
    Calls Try.prog 28 #[.slice A n c, .slice B m d] w fun e w' => e = .returned (.bool true) ∧ Below w.heap.size w w' := by
  subst hn hm
  have hl1 : ((ws.length : Int) != ws.length) = false := by simp
  go_enter Try.func28, Try.ntmps28
  go_wp2_with fail
  go_loopw [5] (fun i wr => ∃ k : Nat, k ≤ ws.length ∧ i = .int .i64 k ∧ ∃ n, wr = w.drewN n) (fun i _ => ws.length - (intOf i).toNat)
  case atStart => exact ⟨0, Nat.zero_le _, rfl, 0, rfl⟩
  case round =>
    obtain ⟨k, hk, rfl, n, rfl⟩ := hrel
    by_cases hlt : k < ws.length
    · obtain ⟨b, off, r, rfl, hbl, hc, hrk⟩ := hx.at hlt
      obtain ⟨b2, off2, r2, rfl, hbl2, hc2, hrk2⟩ := hy.at hlt
      have : r = r2 := by have := hrk.out.symm.trans hrk2.out; simpa using this
      subst this
      clear hx hy hl1
      go_wp2_with fail
      go_quiet (fail)
      go_wp2_with fail
      go_roundw
      case rel => exact ⟨k + 1, by omega, by go_num, _, rfl⟩
      case measure => simp [intOf]; omega
    · go_wp2_with fail
      go_ret
      exact ⟨rfl, below_drewN _ _⟩
set_option maxHeartbeats 1000000 in
theorem likeI (A B : Option Addr) (n m c d : Nat) (xs : List Int) (w : World) (hx : Ir w A xs) (hy : Ir w B xs) (hn : xs.length = n) (hm : xs.length = m) (hb : n ≤ 1000000000) :
    Calls Try.prog 29 #[.slice A n c, .slice B m d] w fun e w' => e = .returned (.bool true) ∧ Below w.heap.size w w' := by
  subst hn hm
  have hl1 : ((xs.length : Int) != xs.length) = false := by simp
  go_enter Try.func29, Try.ntmps29
  go_wp2_with fail
  go_loopw [5] (fun i wr => ∃ k : Nat, k ≤ xs.length ∧ i = .int .i64 k ∧ ∃ n, wr = w.drewN n) (fun i _ => xs.length - (intOf i).toNat)
  case atStart => exact ⟨0, Nat.zero_le _, rfl, 0, rfl⟩
  case round =>
    obtain ⟨k, hk, rfl, n, rfl⟩ := hrel
    by_cases hlt : k < xs.length
    · obtain ⟨b, off, x, rfl, hc, hxk⟩ := hx.at hlt
      obtain ⟨b2, off2, y, rfl, hc2, hyk⟩ := hy.at hlt
      have : x = y := by have := hxk.out.symm.trans hyk.out; simpa using this
      subst this
      clear hx hy hl1
      go_wp2_with fail
      go_quiet (fail)
      go_wp2_with fail
      go_roundw
      case rel => exact ⟨k + 1, by omega, by go_num, _, rfl⟩
      case measure => simp [intOf]; omega
    · go_wp2_with fail
      go_ret
      exact ⟨rfl, below_drewN _ _⟩
end Go.Proofs.Ytaehkkcaoniphaa

/- impl.greatestDivisor. -/
namespace Go.Proofs.Ytaehkkcaoniphaa
open Go.ChangeShapes Go.WideShapes Go.ChangeAt Go.RowKit
set_option linter.unusedVariables false

set_option maxRecDepth 100000 in
set_option maxHeartbeats 1000000 in
theorem gcd_i (x y : Nat) (w : World) (hx : x ≤ 1000000000000) (hy : y ≤ 1000000000000) :
    Calls Try.prog 59 #[.int .i64 x, .int .i64 y] w fun e w' => e = .returned (.int .i64 (Nat.gcd x y : Nat)) ∧ Below w.heap.size w w' := by
  obtain ⟨G, hG⟩ : ∃ G, G = Nat.gcd x y := ⟨_, rfl⟩
  rw [← hG]
  go_enter Try.func59, Try.ntmps59
  go_wp2_with fail
  go_loopw [0, 1] (fun a b wr => ∃ p q : Nat, a = .int .i64 p ∧ b = .int .i64 q ∧ p ≤ 1000000000000 ∧ q ≤ 1000000000000 ∧ Hid (Nat.gcd p q = G) ∧ Below w.heap.size w wr) (fun _ b _ => (intOf b).toNat)
  case atStart => exact ⟨x, y, rfl, rfl, hx, hy, Lib.hid hG.symm, Below.refl _ _⟩
  case round =>
    obtain ⟨p, q, rfl, rfl, hp, hq, hg, hb⟩ := hrel
    by_cases h0 : 0 < q
    · have hg2 : Hid (Nat.gcd q (p % q) = G) := Lib.hid (by rw [← hg.out, Nat.gcd_comm p q, Nat.gcd_rec q p, Nat.gcd_comm])
      have hlt : p % q < q := Nat.mod_lt _ h0
      have hz : ((q : Int) == 0) = false := by rw [beq_eq_false_iff_ne]; omega
      clear hg
      go_wp2_with fail
      go_quiet (fail)
      go_wp2_with fail
      exact ⟨⟨q, p % q, rfl, by rw [Int.natCast_emod], hq, by omega, hg2, belowGo hb (below_drewN _ _)⟩, by rw [← Int.natCast_emod]; simp only [intOf, Int.toNat_natCast]; exact hlt⟩
    · obtain rfl : q = 0 := by omega
      have E : Hid (p = G) := Lib.hid (by rw [← hg.out, Nat.gcd_zero_right])
      clear hg
      go_wp2_with fail
      go_ret
      rw [← E.out]
      exact ⟨rfl, hb⟩
end Go.Proofs.Ytaehkkcaoniphaa

/- impl.CrossRate. -/
namespace Go.Proofs.Ytaehkkcaoniphaa
open Go.ChangeShapes Go.WideShapes Go.ChangeAt Go.RowKit
set_option linter.unusedVariables false

/-- p divided by q, in lowest terms. -/
def crossL (p q : Int × Int) : Int × Int := ((p.1 * q.2) / (Nat.gcd (p.1 * q.2).toNat (p.2 * q.1).toNat : Nat), (p.2 * q.1) / (Nat.gcd (p.1 * q.2).toNat (p.2 * q.1).toNat : Nat))
def crossR (rs : List Rt) (f t : List UInt8) (day : Int) : Int × Int × Int :=
  if ratesC rs day [f, t] = 0 then ((crossL (rateL f day rs) (rateL t day rs)).1, (crossL (rateL f day rs) (rateL t day rs)).2, 0) else (0, 0, ratesC rs day [f, t])
theorem rates_two {w : World} {rs : List Rt} {day : Int} {f t : List UInt8} {e : Ending} {w' : World} (h : RatesP w rs day [f, t] e w') :
    (∃ b off q r s, e = .returned (.tuple #[.slice (some ⟨b, off, none⟩) 2 q, .int .i64 0]) ∧ ratesC rs day [f, t] = 0 ∧ Cells4 w' b off r ∧ Cells4 w' b (off + 4) s ∧ GoodR rs day f r ∧ GoodR rs day t s ∧ Below w.heap.size w w') ∨
    (∃ A n q k, e = .returned (.tuple #[.slice A n q, .int .i64 k]) ∧ ratesC rs day [f, t] = k ∧ k ≠ 0 ∧ Below w.heap.size w w') := by
  obtain ⟨A, q, ys, rfl, ho, hg, hb⟩ := h
  by_cases hk : ratesC rs day [f, t] = 0
  · left
    have hg := hg hk
    obtain ⟨r, h1, h2⟩ := hg.2 0 f rfl
    obtain ⟨s, h5, h6⟩ := hg.2 1 t rfl
    have hl : ys.length = 2 := hg.1
    rw [hl] at ho
    obtain ⟨b, off, r', rfl, _, hr, h4⟩ := ho.rr.four (k := 0) (by omega)
    obtain ⟨b', off', s', e2, _, hs, h4'⟩ := ho.rr.four (k := 1) (by omega)
    obtain ⟨rfl, rfl⟩ : b = b' ∧ off = off' := by injection e2 with e2; injection e2 with e3 e4; exact ⟨e3, e4⟩
    rw [hr.out] at h1
    rw [hs.out] at h5
    obtain rfl := Option.some.inj h1
    obtain rfl := Option.some.inj h5
    refine ⟨b, off, q, r', s', by rw [hl, hk], hk, by simpa using h4, by simpa using h4', h2, h6, hb⟩
  · exact .inr ⟨A, _, q, _, rfl, rfl, hk, hb⟩
theorem sr_two (w : World) (c d : List UInt8) : Sr (w.alloc (.cells #[.string ⟨c.toArray⟩, .string ⟨d.toArray⟩] 9)) (some ⟨w.heap.size, 0, none⟩) [c, d] := fun _ =>
  ⟨w.heap.size, 0, rfl, by simp, fun j v hj => by
    rw [Nat.zero_add, cell_of_row _ _ _ _ _ _ (heap_alloc_new _ _)]
    simpa [encStr] using hj⟩
theorem mul_bd {a b : Int} (ha : 1 ≤ a) (ha2 : a ≤ 1000000) (hb : 1 ≤ b) (hb2 : b ≤ 1000000) : 1 ≤ a * b ∧ a * b ≤ 1000000000000 := by
  have h1 := Int.mul_le_mul ha hb (by omega) (by omega)
  have h2 := Int.mul_le_mul ha2 hb2 (by omega) (by omega)
  omega

theorem quot_bd (X G : Nat) : 0 ≤ (X : Int) / (G : Int) ∧ (X : Int) / (G : Int) ≤ X :=
  ⟨Int.ediv_nonneg (Int.natCast_nonneg _) (Int.natCast_nonneg _), Int.ediv_le_self _ (Int.natCast_nonneg _)⟩
set_option maxRecDepth 100000 in
set_option maxHeartbeats 4000000 in
theorem crossRate_i (A : Option Addr) (d : Nat) (rs : List Rt) (f t : List UInt8) (day : Int) (w : World) (h : Tbl w A rs) (hf : f.length ≤ 9223372036854775807) (ht : t.length ≤ 9223372036854775807) :
    Calls Try.prog 18 #[.slice A rs.length d, .string ⟨f.toArray⟩, .string ⟨t.toArray⟩, .int .i64 day] w (Gives w (.tuple #[.int .i64 (crossR rs f t day).1, .int .i64 (crossR rs f t day).2.1, .int .i64 (crossR rs f t day).2.2])) := by
  have b0 := below_alloc w (.cells #[.string ⟨f.toArray⟩, .string ⟨t.toArray⟩] 9)
  have HR := Lib.hid (ratesOn_i A d rs day (some ⟨w.heap.size, 0, none⟩) 2 [f, t] _ (h.below b0) (sr_two w f t) (by simp; exact ⟨hf, ht⟩) (by simp))
  have E0 : Hid (∀ (r s : Rt), ratesC rs day [f, t] = 0 → GoodR rs day f r → GoodR rs day t s → crossR rs f t day = ((crossL (r.num, r.den) (s.num, s.den)).1, (crossL (r.num, r.den) (s.num, s.den)).2, 0)) := Lib.hid fun r s h1 h2 h3 => by unfold crossR; rw [if_pos h1, h2.1, h3.1]
  have E1 : Hid (∀ k, ratesC rs day [f, t] = k → k ≠ 0 → crossR rs f t day = (0, 0, k)) := Lib.hid fun k h1 h2 => by subst h1; unfold crossR; rw [if_neg h2]
  go_enter Try.func18, Try.ntmps18
  go_wp2_with (go_at_call 56; refine HR.out.mono ?_; rintro e w1 hp
               rcases rates_two hp with ⟨b, off, q, r, s, rfl, hk, h4, h4', hg, hg', b1⟩ | ⟨G, n, q, k, rfl, hk, hk0, b1⟩)
  · have E := Lib.hid (E0.out r s hk hg hg')
    have c2 := h4.c2
    have c3 := h4.c3
    have c6 := h4'.c2
    have c7 := h4'.c3
    have t1 := belowGo b0 b1
    obtain ⟨_, ha1, ha2, ha3, ha4⟩ := hg
    obtain ⟨_, hb1, hb2, hb3, hb4⟩ := hg'
    obtain ⟨m1, m2⟩ := mul_bd ha1 ha2 hb3 hb4
    obtain ⟨m3, m4⟩ := mul_bd ha3 ha4 hb1 hb2
    unfold crossL at E
    simp only at E
    clear HR E0 E1 hp hk h4 h4' h b0 b1 ha1 ha2 ha3 ha4 hb1 hb2 hb3 hb4
    generalize r.num = r1 at *
    generalize r.den = r2 at *
    generalize s.num = s1 at *
    generalize s.den = s2 at *
    go_quiet (fail)
    go_wp2_with fail
    go_quiet (fail)
    have hbd : ∀ n, Below w.heap.size w (w1.drewN n) := fun n => belowGo t1 (below_drewN w1 n)
    generalize r1 * s2 = P at *
    generalize r2 * s1 = Q at *
    obtain ⟨X, rfl⟩ : ∃ X : Nat, P = X := ⟨P.toNat, by omega⟩
    obtain ⟨Y, rfl⟩ : ∃ Y : Nat, Q = Y := ⟨Q.toNat, by omega⟩
    rw [Int.toNat_natCast, Int.toNat_natCast] at E
    have hpos : 0 < Nat.gcd X Y := Nat.gcd_pos_of_pos_left _ (by omega)
    have HG := Lib.hid (fun w => gcd_i X Y w (by omega) (by omega))
    generalize Nat.gcd X Y = G at *
    have hz : ((G : Int) == 0) = false := by rw [beq_eq_false_iff_ne]; omega
    have hz2 : ((G : Int) == -1) = false := by rw [beq_eq_false_iff_ne]; omega
    have q1 := quot_bd X G
    have q2 := quot_bd Y G
    clear c2 c3 c6 c7 t1
    go_wp2_with (go_at_call 59; refine (HG.out _).mono ?_; rintro e w3 ⟨rfl, b3⟩)
    go_quiet (fail)
    go_wp2_with fail
    go_ret3
    rw [E.out]
    exact ⟨rfl, belowGo (belowGo (hbd _) b3) (below_drewN _ _)⟩
  · go_ret3
    rw [E1.out k hk hk0]
    exact ⟨rfl, belowGo b0 b1⟩
end Go.Proofs.Ytaehkkcaoniphaa

/- spec.l03Cross, spec.CrossRate. -/
namespace Go.Proofs.Ytaehkkcaoniphaa
open Go.ChangeShapes Go.WideShapes Go.ChangeAt Go.RowKit
set_option linter.unusedVariables false

theorem rate_good {rs : List Rt} (ht : tabB rs = true) {c : List UInt8} {day : Int} (h : 0 < (rateL c day rs).2) : 1 ≤ (rateL c day rs).1 ∧ (rateL c day rs).1 ≤ 1000000 ∧ (rateL c day rs).2 ≤ 1000000 := by
  revert h
  unfold rateL
  split
  · intro _; decide
  · split
    · intro h; exact absurd h (by decide)
    · rename_i r hr
      obtain ⟨k, hk, _⟩ := lastOn_some hr
      have := Rt.ok_iff.1 (tab_ok ht hk)
      intro h
      show 1 ≤ r.num ∧ r.num ≤ 1000000 ∧ r.den ≤ 1000000
      omega
theorem l03Rate_q {A : Option Addr} {d : Nat} {rs : List Rt} {c : List UInt8} {day n m : Int} {b : Bool} {w : World} (h : Tbl w A rs) (hr : rateL c day rs = (n, m)) (hb : decide (0 < m) = b) :
    Calls Try.prog 57 #[.slice A rs.length d, .string ⟨c.toArray⟩, .int .i64 day] w fun e w' => e = .returned (.tuple #[.int .i64 n, .int .i64 m, .bool b]) ∧ w = w' := by
  have := l03Rate_s A d rs c day w h
  rw [hr, hb] at this
  exact this
def crossS (rs : List Rt) (f t : List UInt8) (day : Int) : Int × Int × Bool :=
  if 0 < (rateL f day rs).2 ∧ 0 < (rateL t day rs).2 then ((crossL (rateL f day rs) (rateL t day rs)).1, (crossL (rateL f day rs) (rateL t day rs)).2, true) else (0, 0, false)

set_option maxRecDepth 100000 in
set_option maxHeartbeats 4000000 in
theorem l03Cross_s (A : Option Addr) (d : Nat) (rs : List Rt) (f t : List UInt8) (day : Int) (w : World) (h : Tbl w A rs) (ht : tabB rs = true) :
    Calls Try.prog 47 #[.slice A rs.length d, .string ⟨f.toArray⟩, .string ⟨t.toArray⟩, .int .i64 day] w (Gives w (.tuple #[.int .i64 (crossS rs f t day).1, .int .i64 (crossS rs f t day).2.1, .bool (crossS rs f t day).2.2])) := by
  have G1 := Lib.hid (@rate_good rs ht f day)
  have G2 := Lib.hid (@rate_good rs ht t day)
  have E0 : Hid (0 < (rateL f day rs).2 → 0 < (rateL t day rs).2 → crossS rs f t day = ((crossL (rateL f day rs) (rateL t day rs)).1, (crossL (rateL f day rs) (rateL t day rs)).2, true)) := Lib.hid fun h1 h2 => if_pos ⟨h1, h2⟩
  have E1 : Hid (¬ (0 < (rateL f day rs).2 ∧ 0 < (rateL t day rs).2) → crossS rs f t day = (0, 0, false)) := Lib.hid fun h1 => if_neg h1
  generalize crossS rs f t day = R at *
  obtain ⟨⟨r1, r2⟩, hrf⟩ : ∃ p, rateL f day rs = p := ⟨_, rfl⟩
  obtain ⟨⟨s1, s2⟩, hrt⟩ : ∃ p, rateL t day rs = p := ⟨_, rfl⟩
  rw [hrf] at G1 E0 E1
  rw [hrt] at G2 E0 E1
  simp only at G1 G2 E0 E1
  clear ht
  by_cases h1 : 0 < r2
  · have hd1 : decide (0 < r2) = true := by simpa using h1
    by_cases h2 : 0 < s2
    · have hd2 : decide (0 < s2) = true := by simpa using h2
      have E := Lib.hid (E0.out h1 h2)
      obtain ⟨a1, a2, a3⟩ := G1.out h1
      obtain ⟨e1, e2, e3⟩ := G2.out h2
      obtain ⟨m1, m2⟩ := mul_bd a1 a2 (show 1 ≤ s2 by omega) e3
      obtain ⟨m3, m4⟩ := mul_bd (show 1 ≤ r2 by omega) a3 e1 e2
      unfold crossL at E
      simp only at E
      clear E0 E1 G1 G2 a1 a2 a3 e1 e2 e3 h1 h2
      go_enter Try.func47, Try.ntmps47
      go_wp2_with (go_at_call 57; refine (l03Rate_q h (by assumption) (by assumption)).mono ?_; rintro e w' ⟨rfl, rfl⟩)
      generalize r1 * s2 = P at *
      generalize r2 * s1 = Q at *
      obtain ⟨X, rfl⟩ : ∃ X : Nat, P = X := ⟨P.toNat, by omega⟩
      obtain ⟨Y, rfl⟩ : ∃ Y : Nat, Q = Y := ⟨Q.toNat, by omega⟩
      rw [Int.toNat_natCast, Int.toNat_natCast] at E
      have hpos : 0 < Nat.gcd X Y := Nat.gcd_pos_of_pos_left _ (by omega)
      obtain ⟨G, hG⟩ : ∃ G, G = Nat.gcd X Y := ⟨_, rfl⟩
      rw [← hG] at hpos E
      go_loopw [19, 20] (fun a b wr => ∃ p q : Nat, a = .int .i64 p ∧ b = .int .i64 q ∧ p ≤ 1000000000000 ∧ q ≤ 1000000000000 ∧ Hid (Nat.gcd p q = G) ∧ Below w.heap.size w wr) (fun _ b _ => (intOf b).toNat)
      case atStart => exact ⟨X, Y, rfl, rfl, by omega, by omega, Lib.hid hG.symm, Below.refl _ _⟩
      case round =>
        obtain ⟨p, q, rfl, rfl, hp, hq, hg, hb⟩ := hrel
        by_cases h0 : 0 < q
        · have hg2 : Hid (Nat.gcd q (p % q) = G) := Lib.hid (by rw [← hg.out, Nat.gcd_comm p q, Nat.gcd_rec q p, Nat.gcd_comm])
          have hlt : p % q < q := Nat.mod_lt _ h0
          have hz : ((q : Int) == 0) = false := by rw [beq_eq_false_iff_ne]; omega
          have hz2 : ((q : Int) != 0) = true := by rw [bne_iff_ne]; omega
          clear hg
          go_wp2_with fail
          go_quiet (fail)
          go_wp2_with fail
          exact ⟨⟨q, p % q, rfl, by rw [Int.natCast_emod], hq, by omega, hg2, belowGo hb (below_drewN _ _)⟩, by rw [← Int.natCast_emod]; simp only [intOf, Int.toNat_natCast]; exact hlt⟩
        · obtain rfl : q = 0 := by omega
          obtain rfl : p = G := by rw [← hg.out, Nat.gcd_zero_right]
          have hz : ((p : Int) == 0) = false := by rw [beq_eq_false_iff_ne]; omega
          have hz2 : ((p : Int) == -1) = false := by rw [beq_eq_false_iff_ne]; omega
          have q1 := quot_bd X p
          have q2 := quot_bd Y p
          clear hg hG
          go_wp2_with fail
          go_quiet (fail)
          go_wp2_with fail
          go_ret3
          rw [E.out]
          exact ⟨rfl, belowGo hb (below_drewN _ _)⟩
    · have hd2 : decide (0 < s2) = false := by simpa using h2
      have E := Lib.hid (E1.out fun h => h2 h.2)
      clear E0 E1 G1 G2
      go_enter Try.func47, Try.ntmps47
      go_wp2_with (go_at_call 57; refine (l03Rate_q h (by assumption) (by assumption)).mono ?_; rintro e w' ⟨rfl, rfl⟩)
      go_ret3
      rw [E.out]
      exact ⟨rfl, Below.refl _ _⟩
  · have hd1 : decide (0 < r2) = false := by simpa using h1
    obtain ⟨b2, hd2⟩ : ∃ b, decide (0 < s2) = b := ⟨_, rfl⟩
    have E := Lib.hid (E1.out fun h => h1 h.1)
    clear E0 E1 G1 G2
    go_enter Try.func47, Try.ntmps47
    go_wp2_with (go_at_call 57; refine (l03Rate_q h (by assumption) (by assumption)).mono ?_; rintro e w' ⟨rfl, rfl⟩)
    go_ret3
    rw [E.out]
    exact ⟨rfl, Below.refl _ _⟩
end Go.Proofs.Ytaehkkcaoniphaa

/- spec.CrossRate; the law of CrossRate. -/
namespace Go.Proofs.Ytaehkkcaoniphaa
open Go.ChangeShapes Go.WideShapes Go.ChangeAt Go.RowKit
set_option linter.unusedVariables false

theorem ratesC_two {rs : List Rt} {f t : List UInt8} {day : Int} : ratesC rs day [f, t] = if cdO rs f t day true = 0 then (if (noRate rs day f || noRate rs day t) = true then 4 else 0) else cdO rs f t day true := by
  unfold ratesC cdO
  simp only [List.all_cons, List.all_nil, List.any_cons, List.any_nil, Bool.and_true, Bool.or_false]
  generalize tabB rs = a
  generalize codeB f = b
  generalize codeB t = c
  generalize inr day 0 36524 = d
  generalize noRate rs day f = e
  generalize noRate rs day t = g
  revert a b c d e g; decide
theorem crossR_a {rs : List Rt} {f t : List UInt8} {day k : Int} (h : cdO rs f t day true = k) (hk : k ≠ 0) : crossR rs f t day = (0, 0, k) := by
  have : ratesC rs day [f, t] = k := by rw [ratesC_two, h, if_neg hk]
  unfold crossR; rw [this, if_neg hk]
theorem crossR_b {rs : List Rt} {f t : List UInt8} {day : Int} (h : cdO rs f t day true = 0) : crossR rs f t day = if (crossS rs f t day).2.2 = true then ((crossS rs f t day).1, (crossS rs f t day).2.1, 0) else (0, 0, 4) := by
  have ht := (cdB_0 h).1
  have n1 := no_rate ht (c := f) (day := day)
  have n2 := no_rate ht (c := t) (day := day)
  by_cases hb : 0 < (rateL f day rs).2 ∧ 0 < (rateL t day rs).2
  · have e1 : noRate rs day f = false := by
      cases e : noRate rs day f with
      | false => rfl
      | true => exact absurd hb.1 (n1.1 e)
    have e2 : noRate rs day t = false := by
      cases e : noRate rs day t with
      | false => rfl
      | true => exact absurd hb.2 (n2.1 e)
    have hs : crossS rs f t day = ((crossL (rateL f day rs) (rateL t day rs)).1, (crossL (rateL f day rs) (rateL t day rs)).2, true) := if_pos hb
    have : ratesC rs day [f, t] = 0 := by rw [ratesC_two, h, if_pos rfl, e1, e2]; rfl
    unfold crossR; rw [if_pos this, hs]; rfl
  · have hs : crossS rs f t day = (0, 0, false) := if_neg hb
    have e : (noRate rs day f || noRate rs day t) = true := by
      rw [Bool.or_eq_true, n1, n2]
      by_cases h1 : 0 < (rateL f day rs).2
      · exact .inr fun h2 => hb ⟨h1, h2⟩
      · exact .inl h1
    have : ratesC rs day [f, t] = 4 := by rw [ratesC_two, h, if_pos rfl, e]; rfl
    unfold crossR; rw [this, hs]; rfl

set_option maxRecDepth 100000 in
set_option maxHeartbeats 4000000 in
theorem crossRate_s (A : Option Addr) (d : Nat) (rs : List Rt) (f t : List UInt8) (day : Int) (w : World) (h : Tbl w A rs) (hf : f.length ≤ 9223372036854775807) (ht : t.length ≤ 9223372036854775807) :
    Calls Try.prog 20 #[.slice A rs.length d, .string ⟨f.toArray⟩, .string ⟨t.toArray⟩, .int .i64 day] w (Gives w (.tuple #[.int .i64 (crossR rs f t day).1, .int .i64 (crossR rs f t day).2.1, .int .i64 (crossR rs f t day).2.2])) := by
  have HC := Lib.hid (l03Code_q (d := d) (amount := 0) h hf ht rfl rfl rfl rfl (show amt 0 = true from rfl) (t := t) (f := f) (day := day))
  have HA := Lib.hid (fun k => @crossR_a rs f t day k)
  have HB := Lib.hid (@crossR_b rs f t day)
  have HR := Lib.hid (fun (ht : tabB rs = true) w' (hb : Below w.heap.size w w') => l03Cross_s A d rs f t day w' (h.below hb) ht)
  have H0 := Lib.hid (fun h : cdO rs f t day true = 0 => (cdB_0 h).1)
  rw [show cdB (tabB rs) (codeB f) (codeB t) (inr day 0 36524) true = cdO rs f t day true from rfl] at HC
  generalize cdO rs f t day true = k at *
  generalize crossR rs f t day = R at *
  generalize crossS rs f t day = p at *
  obtain ⟨n, m, ok⟩ := p
  simp only at HB HR
  clear h
  by_cases hk : k = 0
  · have HR := Lib.hid (HR.out (H0.out hk))
    subst hk
    have E := Lib.hid (HB.out rfl)
    clear HA HB H0
    cases ok
    all_goals
      go_enter Try.func20, Try.ntmps20
      go_wp2_with (first
        | (go_at_call 46; refine HC.out.mono ?_; rintro e w1 ⟨rfl, b1⟩)
        | (go_at_call 47; refine (HR.out _ b1).mono ?_; rintro e w2 ⟨rfl, b2⟩))
      go_ret3
      rw [E.out]
      exact ⟨rfl, belowGo b1 b2⟩
  · have E := Lib.hid (HA.out k rfl hk)
    clear HA HB HR H0
    go_enter Try.func20, Try.ntmps20
    go_wp2_with (go_at_call 46; refine HC.out.mono ?_; rintro e w1 ⟨rfl, b1⟩)
    go_ret3
    rw [E.out]
    exact ⟨rfl, b1⟩

end Go.Proofs.Ytaehkkcaoniphaa

/- impl.nearestAmount where the product fits 64 bits. -/
namespace Go.Proofs.Ytaehkkcaoniphaa
open Go.ChangeShapes Go.WideShapes Go.ChangeAt Go.RowKit
set_option linter.unusedVariables false

theorem mul64 (x y : Int) (hx : 0 ≤ x) (hx' : x ≤ 18446744073709551615) (hy : 0 ≤ y) (hy' : y ≤ 18446744073709551615) (w : World) :
    Calls Try.prog 68 #[.int .u64 x, .int .u64 y] w fun e w' => e = .returned (.tuple #[.int .u64 (x * y / 18446744073709551616), .int .u64 (x * y % 18446744073709551616)]) ∧ w = w' := by
  obtain ⟨x, rfl⟩ := Int.eq_ofNat_of_zero_le hx
  obtain ⟨y, rfl⟩ := Int.eq_ofNat_of_zero_le hy
  refine (Try.bits_Mul64 x y (by omega) (by omega) w).mono ?_
  rintro e w' ⟨rfl, rfl⟩
  exact ⟨by simp, rfl⟩
def lays25_ren : Go.Shelf.Ren := ⟨fun | 25 => 69 | n => n, fun | 22 => 93 | n => n, fun | n => n⟩
theorem lays25 : Lays7.n25 Try.prog lays25_ren := {
  mixed := by kernel_rfl
  f25 := Try.func69.trans (congrArg some (by kernel_rfl))
  t22 := Try.underlying93
  a22 := fun _ => by kernel_rfl
  z22 := fun _ => by kernel_rfl
  v22 := fun _ => by kernel_rfl
  i22 := by kernel_rfl }
theorem add64 (x y : Int) (hx : 0 ≤ x) (hy : 0 ≤ y) (w : World) : (callFunc 69 #[.int .u64 x, .int .u64 y, .int .u64 0]).run Try.prog w =
    .ok (.value (.tuple #[.int .u64 ((x + y) % 18446744073709551616), .int .u64 ((x + y) / 18446744073709551616)])) w := by
  obtain ⟨x, rfl⟩ := Int.eq_ofNat_of_zero_le hx
  obtain ⟨y, rfl⟩ := Int.eq_ofNat_of_zero_le hy
  refine (Any7.bits_Add64 lays25 x y 0 (by omega) w).trans ?_
  congr 5 <;> omega
/-- The quotient; whatever the remainder. -/
def Quot64 (w : World) (q : Int) (e : Ending) (w' : World) : Prop := (∃ r, e = .returned (.tuple #[.int .u64 q, .int .u64 r])) ∧ ∃ n, w' = w.drewN n
theorem div64_0 (l y : Int) (h0 : 0 ≤ l) (h1 : l ≤ 18446744073709551615) (y0 : 1 ≤ y) (y1 : y ≤ 18446744073709551615) (w : World) :
    Calls Try.prog 70 #[.int .u64 0, .int .u64 l, .int .u64 y] w (Quot64 w (l / y)) := by
  have hy : (y == 0) = false := by rw [beq_eq_false_iff_ne]; omega
  go_enter Try.func70, Try.ntmps70
  go_wp2_with fail
  go_quiet (fail)
  go_wp2_with fail
  go_ret2
  exact ⟨⟨_, rfl⟩, _, rfl⟩

def nearest (x c : Int) : Int := (2 * x + c) / (2 * c)
/-- What nearestAmount answers. -/
def nearR (a b c : Int) : Int × Int := if amt (nearest (a * b) c) = true then (nearest (a * b) c, 0) else (0, 3)
theorem nearR_no {a b c : Int} (h : amt (nearest (a * b) c) = false) : nearR a b c = (0, 3) := by simp [nearR, h]
theorem nearR_ok {a b c : Int} (h : amt (nearest (a * b) c) = true) : nearR a b c = (nearest (a * b) c, 0) := by simp [nearR, h]
theorem near_nn {x c : Int} (hx : 0 ≤ x) (hc : 1 ≤ c) : 0 ≤ nearest x c := Int.ediv_nonneg (by omega) (by omega)
theorem split_sum {P c H L L2 k X : Int} (h1 : H = P / 18446744073709551616) (h2 : L = P % 18446744073709551616) (h3 : L2 = (L + c) % 18446744073709551616) (h4 : k = (L + c) / 18446744073709551616) (hX : X = P + c) :
    H + k = X / 18446744073709551616 ∧ L2 = X % 18446744073709551616 := by subst h1 h2 h3 h4 hX; omega
set_option maxHeartbeats 1000000 in
theorem near_of (a b c : Int) (w : World) (a0 : 0 ≤ a) (a1 : a ≤ 1000000000) (b0 : 0 ≤ b) (b1 : b ≤ 1000000000000) (c0 : 1 ≤ c) (c1 : c ≤ 1000000000000)
    (HD : (2 * (a * b) + c) / 18446744073709551616 < 2 * c → ∀ w, Calls Try.prog 70 #[.int .u64 ((2 * (a * b) + c) / 18446744073709551616), .int .u64 ((2 * (a * b) + c) % 18446744073709551616), .int .u64 (2 * c)] w (Quot64 w (nearest (a * b) c))) :
    Calls Try.prog 45 #[.int .i64 a, .int .i64 b, .int .i64 c] w fun e w' => e = .returned (.tuple #[.int .i64 (nearR a b c).1, .int .i64 (nearR a b c).2]) ∧ ∃ n, w' = w.drewN n := by
  have m0 : 0 ≤ a * b := Int.mul_nonneg a0 b0
  have m1 : a * b ≤ 1000000000 * 1000000000000 := Int.mul_le_mul a1 b1 b0 (by omega)
  have hM := mul64 (2 * a) b (by omega) (by omega) b0 (by omega)
  rw [Int.mul_assoc] at hM
  have hnn := near_nn m0 c0
  have hlim : ¬ (2 * (a * b) + c) / 18446744073709551616 < 2 * c → amt (nearest (a * b) c) = false := by
    intro h
    rw [amt_no]; right
    unfold nearest
    have h1 : 2 * c * 18446744073709551616 ≤ 2 * (a * b) + c := by omega
    have h2 : 18446744073709551616 ≤ (2 * (a * b) + c) / (2 * c) := Int.le_ediv_of_mul_le (by omega) (by rw [Int.mul_comm]; exact h1)
    omega
  obtain ⟨X, hX⟩ : ∃ X, X = 2 * (a * b) + c := ⟨_, rfl⟩
  obtain ⟨P, hP⟩ : ∃ P, P = 2 * (a * b) := ⟨_, rfl⟩
  obtain ⟨H, h1⟩ : ∃ H, H = P / 18446744073709551616 := ⟨_, rfl⟩
  obtain ⟨L, h2⟩ : ∃ L, L = P % 18446744073709551616 := ⟨_, rfl⟩
  obtain ⟨L2, h3⟩ : ∃ L2, L2 = (L + c) % 18446744073709551616 := ⟨_, rfl⟩
  obtain ⟨k, h4⟩ : ∃ k, k = (L + c) / 18446744073709551616 := ⟨_, rfl⟩
  obtain ⟨e1, e2⟩ := split_sum (X := X) h1 h2 h3 h4 (by rw [hX, hP])
  have hA := add64 L c (by omega) (by omega)
  rw [← hX, ← e1, ← e2] at HD
  rw [← hX, ← e1] at hlim
  rw [← hP, ← h1, ← h2] at hM
  rw [← h3, ← h4] at hA
  have HM := Lib.hid hM
  have HD := Lib.hid HD
  have g0 : 0 ≤ H := by omega
  have g1 : H ≤ 1000000000000 := by omega
  have g2 : 0 ≤ L := by omega
  have g3 : L ≤ 18446744073709551615 := by omega
  have g4 : 0 ≤ L2 := by omega
  have g5 : L2 ≤ 18446744073709551615 := by omega
  have g6 : 0 ≤ k := by omega
  have g7 : k ≤ 1 := by omega
  have HL := Lib.hid hlim
  have HN := Lib.hid (@nearR_no a b c)
  have HO := Lib.hid (@nearR_ok a b c)
  clear hM hX hP h1 h2 h3 h4 e1 e2 m0 m1 hlim
  generalize nearest (a * b) c = N at *
  generalize nearR a b c = R at *
  by_cases hge : H + k < 2 * c
  · have HD := Lib.hid (HD.out hge)
    rcases Bool.eq_false_or_eq_true (amt N) with hn | hn
    · have E := Lib.hid (HO.out hn)
      have hb := amt_iff.1 hn
      obtain ⟨n0, n1⟩ := hb
      clear HL HN HO hn
      go_enter Try.func45, Try.ntmps45
      go_wp2_with (first | (go_at_call 68; refine (HM.out _).mono ?_; rintro e w' ⟨rfl, rfl⟩) | (go_at_call 70; refine (HD.out _).mono ?_; rintro e w' ⟨⟨r, rfl⟩, n, rfl⟩))
      go_ret2
      exact ⟨by rw [E.out] <;> rfl, _, rfl⟩
    · have E := Lib.hid (HN.out hn)
      have hb := amt_no.1 hn
      have n1 : 1000000000 < N := by omega
      clear HL HN HO hn hb
      go_enter Try.func45, Try.ntmps45
      go_wp2_with (first | (go_at_call 68; refine (HM.out _).mono ?_; rintro e w' ⟨rfl, rfl⟩) | (go_at_call 70; refine (HD.out _).mono ?_; rintro e w' ⟨⟨r, rfl⟩, n, rfl⟩))
      go_ret2
      exact ⟨by rw [E.out] <;> rfl, _, rfl⟩
  · have E := Lib.hid (HN.out (HL.out hge))
    clear HL HN HO HD
    go_enter Try.func45, Try.ntmps45
    go_wp2_with (first | (go_at_call 68; refine (HM.out _).mono ?_; rintro e w' ⟨rfl, rfl⟩))
    go_ret2
    exact ⟨by rw [E.out] <;> rfl, 0, rfl⟩
theorem near_small (a b c : Int) (w : World) (a0 : 0 ≤ a) (a1 : a ≤ 1000000000) (b0 : 0 ≤ b) (b1 : b ≤ 1000000000) (c0 : 1 ≤ c) (c1 : c ≤ 1000000000) :
    Calls Try.prog 45 #[.int .i64 a, .int .i64 b, .int .i64 c] w fun e w' => e = .returned (.tuple #[.int .i64 (nearR a b c).1, .int .i64 (nearR a b c).2]) ∧ ∃ n, w' = w.drewN n := by
  refine near_of a b c w a0 a1 b0 (by omega) c0 (by omega) (fun _ w => ?_)
  have m0 : 0 ≤ a * b := Int.mul_nonneg a0 b0
  have m1 : a * b ≤ 1000000000 * 1000000000 := Int.mul_le_mul a1 b1 b0 (by omega)
  rw [show (2 * (a * b) + c) / 18446744073709551616 = 0 by omega, show (2 * (a * b) + c) % 18446744073709551616 = 2 * (a * b) + c by omega]
  exact div64_0 _ _ (by omega) (by omega) (by omega) (by omega) w
end Go.Proofs.Ytaehkkcaoniphaa

/- spec.l03Convert: bit by bit. -/
namespace Go.Proofs.Ytaehkkcaoniphaa
open Go.ChangeShapes Go.WideShapes Go.ChangeAt Go.RowKit
set_option linter.unusedVariables false

theorem bit_step (a n : Nat) : a / 2 ^ n = 2 * (a / 2 ^ (n + 1)) + a / 2 ^ n % 2 := by
  rw [Nat.pow_succ, ← Nat.div_div_eq_div_mul]; omega
/-- The nearest integer off whole part, quotient and rest. -/
theorem near_parts {a b c whole rest q r : Nat} (hc : 0 < c) (hb : b = whole * c + rest) (h : q * c + r = a * rest) (hr : r < c) :
    nearest ((a : Int) * b) c = ((a * whole + (if c ≤ 2 * r then q + 1 else q) : Nat) : Int) := by
  unfold nearest
  have e : 2 * ((a : Int) * b) + c = ((2 * (a * b) + c : Nat) : Int) := by push_cast; rfl
  have e2 : 2 * (c : Int) = ((2 * c : Nat) : Int) := by push_cast; rfl
  rw [e, e2, ← Int.natCast_ediv]
  congr 1
  have hab : a * b = (a * whole + q) * c + r := by
    rw [hb, Nat.mul_add, ← h, ← Nat.mul_assoc, Nat.add_mul]; omega
  rw [hab]
  apply Nat.div_eq_of_lt_le
  · split <;> rename_i hs
    · have : (a * whole + (q + 1)) * (2 * c) = 2 * ((a * whole + q) * c) + 2 * c := by rw [← Nat.add_assoc, Nat.add_mul _ 1, Nat.mul_left_comm, Nat.one_mul]
      omega
    · have : (a * whole + q) * (2 * c) = 2 * ((a * whole + q) * c) := Nat.mul_left_comm _ _ _
      omega
  · split <;> rename_i hs
    · have : (a * whole + (q + 1) + 1) * (2 * c) = 2 * ((a * whole + q) * c) + 4 * c := by
        rw [show a * whole + (q + 1) + 1 = (a * whole + q) + 2 by omega, Nat.add_mul _ 2, Nat.mul_left_comm]; omega
      omega
    · have : (a * whole + q + 1) * (2 * c) = 2 * ((a * whole + q) * c) + 2 * c := by rw [Nat.add_mul _ 1, Nat.mul_left_comm, Nat.one_mul]
      omega
theorem near_big {a b c whole rest : Nat} (hc : 0 < c) (hb : b = whole * c + rest) (h : 1000000000 < a * whole) : amt (nearest ((a : Int) * b) c) = false := by
  rw [amt_no]; right
  have h1 : whole * c ≤ b := by omega
  have h2 : a * (whole * c) ≤ a * b := Nat.mul_le_mul_left _ h1
  rw [← Nat.mul_assoc] at h2
  have h3 : 1000000001 * c ≤ a * whole * c := Nat.mul_le_mul_right _ (by omega)
  have h4 : ((1000000001 * c : Nat) : Int) ≤ ((a * b : Nat) : Int) := Int.ofNat_le.2 (Nat.le_trans h3 h2)
  rw [Int.natCast_mul, Int.natCast_mul] at h4
  unfold nearest
  have : (1000000001 : Int) ≤ (2 * ((a : Int) * b) + c) / (2 * c) := Int.le_ediv_of_mul_le (by omega) (by omega)
  omega
/-- A quotient stays below its factor. -/
theorem q_bd {q c r A rest : Nat} (h : q * c + r = A * rest) (hr : rest < c) : q ≤ A := by
  rcases Nat.lt_or_ge A q with hlt | hge
  · have h1 : (A + 1) * c ≤ q * c := Nat.mul_le_mul_right _ hlt
    have h2 : A * rest ≤ A * c := Nat.mul_le_mul_left _ (by omega)
    rw [Nat.add_mul] at h1
    omega
  · exact hge

theorem conv_end {N v : Int} (h : v = N) : (amt N = true ∧ v = N) ∨ (amt N = false ∧ amt v = false) := by
  subst h
  rcases Bool.eq_false_or_eq_true (amt v) with e | e
  · exact .inl ⟨e, rfl⟩
  · exact .inr ⟨e, e⟩
set_option maxRecDepth 100000 in
set_option maxHeartbeats 4000000 in
theorem l03Convert_s (a b c : Nat) (w : World) (ha : a ≤ 1000000000) (hb : b ≤ 1000000000000) (hc0 : 1 ≤ c) (hc : c ≤ 1000000000000) :
    Calls Try.prog 48 #[.int .i64 a, .int .i64 b, .int .i64 c] w fun e w' => ∃ v, e = .returned (.int .i64 v) ∧ Below w.heap.size w w' ∧
      ((amt (nearest ((a : Int) * b) c) = true ∧ v = nearest ((a : Int) * b) c) ∨ (amt (nearest ((a : Int) * b) c) = false ∧ amt v = false)) := by
  obtain ⟨whole, hw⟩ : ∃ x, x = b / c := ⟨_, rfl⟩
  obtain ⟨rest, hrs⟩ : ∃ x, x = b % c := ⟨_, rfl⟩
  have hbc : b = whole * c + rest := by rw [hw, hrs, Nat.mul_comm]; exact (Nat.div_add_mod b c).symm
  have hrc : rest < c := by rw [hrs]; exact Nat.mod_lt _ (by omega)
  have hwb : whole ≤ b := by rw [hw]; exact Nat.div_le_self _ _
  have e1 : (b : Int) / (c : Int) = (whole : Int) := by rw [hw, Int.natCast_ediv]
  have e2 : (b : Int) % (c : Int) = (rest : Int) := by rw [hrs, Int.natCast_emod]
  have hz : ((c : Int) == 0) = false := by rw [beq_eq_false_iff_ne]; omega
  have hz2 : ((c : Int) == -1) = false := by rw [beq_eq_false_iff_ne]; omega
  have HB := Lib.hid (fun h => near_big (a := a) (by omega : 0 < c) hbc h)
  have HP := Lib.hid (fun q r (h : q * c + r = a * rest) hr => near_parts (a := a) (by omega : 0 < c) hbc h hr)
  generalize nearest ((a : Int) * b) c = N at *
  clear hw hrs hbc
  go_enter Try.func48, Try.ntmps48
  go_wp2_with fail
  go_quiet (fail)
  rw [e2]
  have hbd := below_drewN w nq
  generalize w.drewN nq = w1 at *
  clear e1 e2 hz hz2
  have hw3 : whole = 0 ∨ (0 < whole ∧ 1000000000 / whole < a) ∨ (0 < whole ∧ ¬ 1000000000 / whole < a) := by omega
  have hM : whole = 0 ∨ (0 < whole ∧ ¬ 1000000000 / whole < a) → a * whole ≤ 1000000000 := by
    rintro (h | ⟨h1, h2⟩)
    · subst h; omega
    · rw [Nat.div_lt_iff_lt_mul h1] at h2; omega
  have hM2 : 0 < whole ∧ 1000000000 / whole < a → 1000000000 < a * whole := by
    rintro ⟨h1, h2⟩
    rwa [Nat.div_lt_iff_lt_mul h1] at h2
  obtain ⟨M, hMe⟩ : ∃ M, M = a * whole := ⟨_, rfl⟩
  have e5 : (a : Int) * (whole : Int) = (M : Int) := by rw [hMe, Int.natCast_mul]
  rw [← hMe] at hM hM2 HP HB
  have e4 : (1000000000 : Int) / (whole : Int) = ((1000000000 / whole : Nat) : Int) := by rw [Int.natCast_ediv]; rfl
  have hwf : (0 < whole ∧ 1000000000 / whole < a) ∨ ¬ (0 < whole ∧ 1000000000 / whole < a) := Decidable.em _
  rcases hwf with hbig | hno
  · obtain ⟨h0, h1⟩ := hbig
    have E := Lib.hid (HB.out (hM2 ⟨h0, h1⟩))
    have d1 : decide (0 < (whole : Int)) = true := by simp; omega
    have hz : ((whole : Int) == 0) = false := by rw [beq_eq_false_iff_ne]; omega
    have hz2 : ((whole : Int) == -1) = false := by rw [beq_eq_false_iff_ne]; omega
    generalize 1000000000 / whole = Q at *
    clear hM hM2 HB HP hMe e5 hwb hw3
    go_wp2_with fail
    go_ret
    exact ⟨_, rfl, hbd, .inr ⟨E.out, by decide⟩⟩
  have hM : M ≤ 1000000000 := hM (by omega)
  have hM0 : whole = 0 → M = 0 := fun h => by rw [hMe, h, Nat.mul_zero]
  have hh : (whole = 0 ∧ M = 0 ∧ decide (0 < (whole : Int)) = false) ∨ (0 < whole ∧ decide (0 < (whole : Int)) = true ∧ ((whole : Int) == 0) = false ∧ ((whole : Int) == -1) = false ∧ ¬ 1000000000 / whole < a) := by
    rcases Nat.eq_zero_or_pos whole with h | h
    · exact .inl ⟨h, hM0 h, by simp; omega⟩
    · exact .inr ⟨h, by simp; omega, by rw [beq_eq_false_iff_ne]; omega, by rw [beq_eq_false_iff_ne]; omega, fun h2 => hno ⟨h, h2⟩⟩
  clear hM2 HB hMe hwb hno hw3 hM0
  rcases hh with ⟨h0, rfl, d1⟩ | ⟨h0, d1, hz, hz2, h1⟩
  all_goals
    (try generalize 1000000000 / whole = Q at *)
    go_wp2_with fail
    go_loopw [10, 11, 12] (fun x y z wr => ∃ n q r B : Nat, x = .int .i64 q ∧ y = .int .i64 r ∧ z = .int .i64 B ∧ n ≤ 31 ∧ Hid (B = 2 ^ n / 2) ∧ Hid (q * c + r = a / 2 ^ n * rest) ∧ r < c ∧ q ≤ 1000000000 ∧ Below w.heap.size w wr) (fun _ _ z _ => (intOf z).toNat)
    case atStart => exact ⟨31, 0, 0, 1073741824, rfl, rfl, rfl, by omega, Lib.hid (by decide), Lib.hid (by rw [Nat.div_eq_of_lt (by omega : a < 2 ^ 31)]; omega), by omega, by omega, hbd⟩
    case round =>
      obtain ⟨n, q, r, B, rfl, rfl, rfl, hn, hB, hq, hr, hq2, hbd⟩ := hrel
      by_cases hn0 : n = 0
      · subst hn0
        obtain rfl : B = 0 := hB.out
        have E := Lib.hid (HP.out q r (by simpa using hq.out) hr)
        clear HP hB hq
        by_cases hs : c ≤ 2 * r
        · rw [if_pos hs] at E
          go_wp2_with fail
          go_ret
          exact ⟨_, rfl, hbd, conv_end (by rw [E.out]; omega)⟩
        · rw [if_neg hs] at E
          go_wp2_with fail
          go_ret
          exact ⟨_, rfl, hbd, conv_end (by rw [E.out]; omega)⟩
      · obtain ⟨m, rfl⟩ : ∃ m, n = m + 1 := ⟨n - 1, by omega⟩
        have hBm : B = 2 ^ m := by rw [hB.out, Nat.pow_succ, Nat.mul_div_cancel _ (by decide)]
        have hB1 : 1 ≤ B := by rw [hBm]; exact Nat.one_le_two_pow
        have hB2 : B ≤ 2 ^ 30 := by rw [hBm]; exact Nat.pow_le_pow_right (by decide) (by omega)
        have hB2 : B ≤ 1073741824 := hB2
        have hst := bit_step a m
        have hq := hq.out
        obtain ⟨A1, hA1⟩ : ∃ x, x = a / 2 ^ (m + 1) := ⟨_, rfl⟩
        obtain ⟨A0, hA0⟩ : ∃ x, x = a / 2 ^ m := ⟨_, rfl⟩
        have hAB : (a : Int) / (B : Int) = (A0 : Int) := by rw [hA0, ← hBm, Int.natCast_ediv]
        have hA0a : A0 ≤ a := by rw [hA0]; exact Nat.div_le_self _ _
        rw [← hA1, ← hA0] at hst
        rw [← hA1] at hq
        have HQ : Hid (∀ x y : Nat, x * c + y = A0 * rest → x * c + y = a / 2 ^ m * rest) := Lib.hid fun x y h => by rw [← hA0]; exact h
        have HB2 : Hid (B / 2 = 2 ^ m / 2) := Lib.hid (by rw [hBm])
        have hz : ((B : Int) == 0) = false := by rw [beq_eq_false_iff_ne]; omega
        have hz2 : ((B : Int) == -1) = false := by rw [beq_eq_false_iff_ne]; omega
        have hm : m ≤ 30 := by omega
        clear HP hB hBm hA1 hA0 hn hn0
        rcases (by omega : A0 = 2 * A1 ∨ A0 = 2 * A1 + 1) with hpar | hpar
        · have d2 : ((A0 : Int) % 2 == 1) = false := by rw [beq_eq_false_iff_ne]; omega
          have hq1 : Hid ((2 * q) * c + 2 * r = A0 * rest) := Lib.hid (by rw [hpar, Nat.mul_assoc, Nat.mul_assoc, ← hq]; omega)
          clear hst hq hpar
          go_wp2_with fail
          go_loopw [10, 11] (fun x y wr' => ∃ q' r' : Nat, x = .int .i64 q' ∧ y = .int .i64 r' ∧ Hid (q' * c + r' = A0 * rest) ∧ r' ≤ 3 * c ∧ q' ≤ 1000000000 ∧ Below w.heap.size w wr') (fun _ y _ => (intOf y).toNat)
          case atStart => exact ⟨2 * q, 2 * r, by go_num, by go_num, hq1, by omega, by have := q_bd hq1.out hrc; omega, hbd⟩
          case round =>
            obtain ⟨q', r', rfl, rfl, he, hr3, hq3, hbd2⟩ := hrel
            by_cases hge : c ≤ r'
            · have HE : Hid ((q' + 1) * c + (r' - c) = A0 * rest) := Lib.hid (by rw [← he.out, Nat.add_mul]; omega)
              have hq4 := q_bd HE.out hrc
              clear he
              go_wp2_with fail
              go_roundw
              case rel => exact ⟨q' + 1, r' - c, by go_num, by go_num, HE, by omega, by omega, hbd2⟩
              case measure => simp [intOf]; omega
            · have HE := Lib.hid (HQ.out q' r' he.out)
              clear he
              go_wp2_with fail
              go_roundw
              case rel => exact ⟨m, q', r', B / 2, rfl, rfl, by go_num, by omega, HB2, HE, by omega, by omega, hbd2⟩
              case measure => simp [intOf]; omega
        · have d2 : ((A0 : Int) % 2 == 1) = true := by rw [beq_iff_eq]; omega
          have hq1 : Hid ((2 * q) * c + (2 * r + rest) = A0 * rest) := Lib.hid (by rw [hpar, Nat.add_mul, Nat.one_mul, Nat.mul_assoc, Nat.mul_assoc, ← hq]; omega)
          clear hst hq hpar
          go_wp2_with fail
          go_loopw [10, 11] (fun x y wr' => ∃ q' r' : Nat, x = .int .i64 q' ∧ y = .int .i64 r' ∧ Hid (q' * c + r' = A0 * rest) ∧ r' ≤ 3 * c ∧ q' ≤ 1000000000 ∧ Below w.heap.size w wr') (fun _ y _ => (intOf y).toNat)
          case atStart => exact ⟨2 * q, 2 * r + rest, by go_num, by go_num, hq1, by omega, by have := q_bd hq1.out hrc; omega, hbd⟩
          case round =>
            obtain ⟨q', r', rfl, rfl, he, hr3, hq3, hbd2⟩ := hrel
            by_cases hge : c ≤ r'
            · have HE : Hid ((q' + 1) * c + (r' - c) = A0 * rest) := Lib.hid (by rw [← he.out, Nat.add_mul]; omega)
              have hq4 := q_bd HE.out hrc
              clear he
              go_wp2_with fail
              go_roundw
              case rel => exact ⟨q' + 1, r' - c, by go_num, by go_num, HE, by omega, by omega, hbd2⟩
              case measure => simp [intOf]; omega
            · have HE := Lib.hid (HQ.out q' r' he.out)
              clear he
              go_wp2_with fail
              go_roundw
              case rel => exact ⟨m, q', r', B / 2, rfl, rfl, by go_num, by omega, HB2, HE, by omega, by omega, hbd2⟩
              case measure => simp [intOf]; omega
end Go.Proofs.Ytaehkkcaoniphaa

/- Long division by two digits of 32 bits: plain numbers, no program. -/
namespace Go.Proofs.Ytaehkkcaoniphaa

/-- The divisor y is two digits a, b, its first bit set; u is less than it; d is the next digit. -/
structure Dig (u d y a b : Nat) : Prop where
  hy : y = a * 4294967296 + b
  hb : b < 4294967296
  ha : 2147483648 ≤ a
  ha' : a < 4294967296
  hu : u < y
  hd : d < 4294967296
theorem dig_eq {u d y a b q r : Nat} (hy : y = a * 4294967296 + b) (hr : r + q * a = u) : ∃ P, q * y = P + q * b ∧ u * 4294967296 + d = r * 4294967296 + P + d := by
  subst hy; subst hr
  refine ⟨q * a * 4294967296, ?_, ?_⟩
  · rw [Nat.mul_add, Nat.mul_assoc]
  · rw [Nat.add_mul]
/-- What holds of the digit that is tried, and of what it leaves. -/
structure Try (u d y a b q r : Nat) : Prop where
  eq : r + q * a = u
  lo : (u * 4294967296 + d) / y ≤ q
  hi : q ≤ 4294967297
  lt : r < 4294967296
section
variable {u d y a b q r : Nat}
theorem Dig.ypos (h : Dig u d y a b) : 0 < y := by have := h.hy; have := h.ha; omega
theorem Dig.lty (h : Dig u d y a b) : (u * 4294967296 + d) / y < 4294967296 := by
  rw [Nat.div_lt_iff_lt_mul h.ypos]
  have := h.hu; have := h.hd; omega
theorem Dig.start (h : Dig u d y a b) : Try u d y a b (u / a) (u % a) := by
  have ha := h.ha
  have e : u % a + u / a * a = u := by rw [Nat.mul_comm, Nat.mod_add_div]
  have hm : u % a < a := Nat.mod_lt _ (by omega)
  refine ⟨e, ?_, ?_, by have := h.ha'; omega⟩
  · apply Nat.le_of_lt_succ
    rw [Nat.div_lt_iff_lt_mul h.ypos]
    obtain ⟨P, h1, h2⟩ := dig_eq (d := d) h.hy e
    have h3 : (u / a + 1) * y = u / a * y + y := Nat.succ_mul _ _
    have hy := h.hy; have hd := h.hd
    show u * 4294967296 + d < (u / a + 1) * y
    rw [h3, h1, h2]
    omega
  · have : u / a < 4294967298 := by
      rw [Nat.div_lt_iff_lt_mul (by omega)]
      have hu := h.hu; have hy := h.hy; have hb := h.hb
      omega
    omega
/-- It is too great: the next one. -/
theorem Try.step (h : Dig u d y a b) (t : Try u d y a b q r) (hc : 4294967296 ≤ q ∨ 4294967296 * r + d < q * b) :
    1 ≤ q ∧ (r + a) + (q - 1) * a = u ∧ (u * 4294967296 + d) / y ≤ q - 1 ∧ q - 1 ≤ 4294967296 := by
  have hl := h.lty
  have hlt : (u * 4294967296 + d) / y < q := by
    rcases hc with hc | hc
    · omega
    · rw [Nat.div_lt_iff_lt_mul h.ypos]
      obtain ⟨P, h1, h2⟩ := dig_eq (d := d) h.hy t.eq
      rw [h1, h2]; omega
  have hq : 1 ≤ q := Nat.lt_of_le_of_lt (Nat.zero_le _) hlt
  obtain ⟨k, rfl⟩ : ∃ k, q = k + 1 := ⟨q - 1, by omega⟩
  have e := t.eq
  rw [Nat.succ_mul] at e
  have := t.hi
  exact ⟨hq, by simp only [Nat.add_sub_cancel]; omega, by omega, by omega⟩
theorem Try.stop (h : Dig u d y a b) (t : Try u d y a b q r) (h1 : q < 4294967296) (h2 : q * b ≤ 4294967296 * r + d) : q = (u * 4294967296 + d) / y := by
  apply Nat.le_antisymm _ t.lo
  rw [Nat.le_div_iff_mul_le h.ypos]
  obtain ⟨P, h3, h4⟩ := dig_eq (d := d) h.hy t.eq
  rw [h3, h4]; omega
theorem Dig.brk (h : Dig u d y a b) (e : r + q * a = u) (lo : (u * 4294967296 + d) / y ≤ q) (hq : q ≤ 4294967296) (hr : 4294967296 ≤ r) : q = (u * 4294967296 + d) / y := by
  apply Nat.le_antisymm _ lo
  rw [Nat.le_div_iff_mul_le h.ypos]
  obtain ⟨P, h3, h4⟩ := dig_eq (d := d) h.hy e
  rw [h3, h4]
  have hb := h.hb
  have : q * b ≤ 4294967296 * 4294967295 := Nat.mul_le_mul hq (by omega)
  omega
theorem Try.prod (h : Dig u d y a b) (t : Try u d y a b q r) : q * b ≤ 18446744073709551615 ∧ 4294967296 * r + d ≤ 18446744073709551615 ∧ 0 ≤ q * b := by
  have hb := h.hb; have hd := h.hd; have := t.lt
  have : q * b ≤ 4294967297 * 4294967295 := Nat.mul_le_mul t.hi (by omega)
  exact ⟨by omega, by omega, by omega⟩
/-- The rest behind a digit. -/
theorem Dig.rest (h : Dig u d y a b) (hq : q = (u * 4294967296 + d) / y) : q * y ≤ u * 4294967296 + d ∧ u * 4294967296 + d - q * y < y ∧ u * 4294967296 + d - q * y = (u * 4294967296 + d) % y := by
  subst hq
  have h1 := Nat.div_add_mod (u * 4294967296 + d) y
  have h2 := Nat.mod_lt (u * 4294967296 + d) h.ypos
  rw [Nat.mul_comm] at h1
  omega
end
theorem two_digits' {u1 d1 d0 y q1 q0 m k : Nat} (hy : 0 < y) (h1 : y * q1 + m = u1 * 4294967296 + d1) (h2 : y * q0 + k = m * 4294967296 + d0) (h3 : k < y) :
    (u1 * 18446744073709551616 + (d1 * 4294967296 + d0)) / y = q1 * 4294967296 + q0 := by
  have e : u1 * 18446744073709551616 + (d1 * 4294967296 + d0) = k + (q1 * 4294967296 + q0) * y := by
    have e1 : (q1 * 4294967296 + q0) * y = y * q1 * 4294967296 + y * q0 := by rw [Nat.mul_comm, Nat.mul_add, Nat.mul_assoc]
    omega
  rw [e, Nat.add_mul_div_right _ _ hy, Nat.div_eq_of_lt h3, Nat.zero_add]
/-- Two digits give the quotient. -/
theorem two_digits {u1 d1 d0 y q1 q0 : Nat} (hy : 0 < y) (hq1 : q1 = (u1 * 4294967296 + d1) / y) (hq0 : q0 = ((u1 * 4294967296 + d1) % y * 4294967296 + d0) / y) :
    (u1 * 18446744073709551616 + (d1 * 4294967296 + d0)) / y = q1 * 4294967296 + q0 := by
  have h1 := Nat.div_add_mod (u1 * 4294967296 + d1) y
  have h2 := Nat.div_add_mod ((u1 * 4294967296 + d1) % y * 4294967296 + d0) y
  have h3 := Nat.mod_lt ((u1 * 4294967296 + d1) % y * 4294967296 + d0) hy
  rw [← hq1] at h1
  rw [← hq0] at h2
  exact two_digits' hy h1 h2 h3
/-- The product with the digit, in 64 bits, gives the rest all the same. -/
theorem wrap_rest {n p r M : Nat} (hM : 0 < M) (h : n = p + r) (hr : r < M) : ((n : Int) % M - (p : Int) % M) % M = r := by
  subst h
  rw [← Int.sub_emod]
  rw [show ((p + r : Nat) : Int) - (p : Int) = (r : Int) by omega]
  exact Int.emod_eq_of_lt (by omega) (by omega)
end Go.Proofs.Ytaehkkcaoniphaa

