/- The draws of FnDateTexts. -/
import Derived.Test.YtpnkjpfhmiaffaaDoorDrawd
import Derived.Test.YtpnkjpfhmiaffaaDoorDrawt
import Derived.Test.YtpnkjpfhmiaffaaDoorDtexs
import Derived.Deep.RegionHeld3
namespace Go.Proofs.YtpnkjpfhmiaffaaDoor
open Go.ChangeShapes Go.WideShapes Go.ChangeAt Go.RowKit
set_option linter.unusedVariables false

def DrawnD (w : World) (e : Ending) (w' : World) : Prop := ∃ y m d : Int, e = .returned (.agg #[.int .i64 y, .int .i64 m, .int .i64 d]) ∧ Below w.heap.size w w'
def DrawnDI (w : World) (e : Ending) (w' : World) : Prop := ∃ y m d k : Int, e = .returned (.tuple #[.agg #[.int .i64 y, .int .i64 m, .int .i64 d], .int .i64 k]) ∧ Below w.heap.size w w'

theorem drawDateText (A : Option Addr) (c : Nat) (bs : List Int) (w : World) (h : Code0 w A bs) : Calls Tryd.prog 18 #[.slice A bs.length c] w (DrawnD w) := by
  have h0 := heap_alloc_new w (.cells #[.int .i64 0, .int .i64 0, .int .i64 0] 31)
  have b0 := below_alloc w (.cells #[.int .i64 0, .int .i64 0, .int .i64 0] 31)
  have hc := h.below b0
  go_enter Tryd.func18, Tryd.ntmps18
  go_wp2_with fail
  refine (code_from A c bs _ hc).mono ?_
  rintro e w1 ⟨g, rfl, s1, b1⟩
  go_wp2_with fail
  refine (date_any g _ A c bs _ s1).mono ?_
  rintro e w2 ⟨y, m, d, rfl, s2, g2⟩
  have b2 := src_below b1 g2 s1.1
  obtain ⟨p2, c0, c1, c2, f0, f1, f2⟩ := keep6 b2 h0
  have b3 := belowGo b0 b2
  go_wp2_with fail
  obtain ⟨W, hW, e0, e1, e2, bW⟩ := done3 p2 (.int .i64 y) (.int .i64 m) (.int .i64 d)
  rw [hW]
  have b5 := bW w.heap.size w (Nat.le_refl _) b3
  clear hW h0 p2 c0 c1 c2 f0 f1 f2 bW s1 s2 b1 b2 b3 hc h
  exact bodyPost_ret (v := .agg #[.int .i64 y, .int .i64 m, .int .i64 d]) (by simp [results, Tryd.results18, go_sem, e0, e1, e2]) rfl ⟨y, m, d, rfl, b5⟩

/-- While the source goes on: the drawn date and the result's block stand. -/
structure KeepA (R q g base : Nat) (A : Option Addr) (c : Nat) (bs : List Int) (y m d : Int) (w2 W : World) : Prop where
  src : Src W base g A c bs
  gr : w2.grownBy W (some g)
  dbox : W.heap[q]? = some (.cells #[.int .i64 y, .int .i64 m, .int .i64 d] 31 (0, 0))
  res : ∃ a b e : Value, W.heap[R]? = some (.cells #[a, b, e] 31 (0, 0))
section
variable {R q g base : Nat} {A : Option Addr} {c : Nat} {bs : List Int} {y m d : Int} {w2 W w' : World}
theorem KeepA.drew (k : KeepA R q g base A c bs y m d w2 W) : KeepA R q g base A c bs y m d w2 W.drew := ⟨k.src.drewN 1, grown_drewN k.gr 1, k.dbox, k.res⟩
theorem KeepA.alloc (k : KeepA R q g base A c bs y m d w2 W) (o : Obj) : KeepA R q g base A c bs y m d w2 (W.alloc o) := by
  obtain ⟨a, b, e, h⟩ := k.res
  exact ⟨k.src.alloc o, grown_alloc k.gr o, (Below.heap_alloc W o _ (lt_of_some k.dbox)).trans k.dbox, a, b, e, (Below.heap_alloc W o _ (lt_of_some h)).trans h⟩
theorem KeepA.step (k : KeepA R q g base A c bs y m d w2 W) (hq : q ≠ g) (hR : R ≠ g) (s : Src w' base g A c bs) (h : W.grownBy w' (some g)) : KeepA R q g base A c bs y m d w2 w' := by
  obtain ⟨a, b, e, hr⟩ := k.res
  exact ⟨s, k.gr.trans h, keepG h k.dbox hq, a, b, e, keepG h hr hR⟩
theorem KeepA.three (k : KeepA R q g base A c bs y m d w2 W) :
    W.cell? ⟨q, 0, none⟩ = some (.int .i64 y) ∧ W.cell? ⟨q, 1, none⟩ = some (.int .i64 m) ∧ W.cell? ⟨q, 2, none⟩ = some (.int .i64 d) := by
  obtain ⟨c0, c1, c2, _⟩ := cells6 k.dbox
  exact ⟨c0, c1, c2⟩
theorem KeepA.set (k : KeepA R q g base A c bs y m d w2 W) (hRq : q ≠ R) (u v x : Value) :
    ((((W.setCell ⟨R, 0, none⟩ u).setCell ⟨R, 1, none⟩ v).setCell ⟨R, 2, none⟩ x).cell? ⟨q, 0, none⟩ = some (.int .i64 y)) ∧ ((((W.setCell ⟨R, 0, none⟩ u).setCell ⟨R, 1, none⟩ v).setCell ⟨R, 2, none⟩ x).cell? ⟨q, 1, none⟩ = some (.int .i64 m)) ∧ ((((W.setCell ⟨R, 0, none⟩ u).setCell ⟨R, 1, none⟩ v).setCell ⟨R, 2, none⟩ x).cell? ⟨q, 2, none⟩ = some (.int .i64 d)) := by
  have h : (((W.setCell ⟨R, 0, none⟩ u).setCell ⟨R, 1, none⟩ v).setCell ⟨R, 2, none⟩ x).heap[q]? = some (.cells #[.int .i64 y, .int .i64 m, .int .i64 d] 31 (0, 0)) := by
    rw [Below.heap_setCell _ _ _ _ hRq, Below.heap_setCell _ _ _ _ hRq, Below.heap_setCell _ _ _ _ hRq]; exact k.dbox
  obtain ⟨c0, c1, c2, _⟩ := cells6 h
  exact ⟨c0, c1, c2⟩
theorem KeepA.rcells (k : KeepA R q g base A c bs y m d w2 W) :
    (∃ a b e : Value, W.cell? ⟨R, 0, none⟩ = some a ∧ W.cell? ⟨R, 1, none⟩ = some b ∧ W.cell? ⟨R, 2, none⟩ = some e ∧ W.frozen? ⟨R, 0, none⟩ = false ∧ W.frozen? ⟨R, 1, none⟩ = false ∧ W.frozen? ⟨R, 2, none⟩ = false) := by
  obtain ⟨a, b, e, h⟩ := k.res
  exact ⟨a, b, e, cells6 h⟩
theorem KeepA.all (k : KeepA R q g base A c bs y m d w2 W) :
    W.cell? ⟨q, 0, none⟩ = some (.int .i64 y) ∧ W.cell? ⟨q, 1, none⟩ = some (.int .i64 m) ∧ W.cell? ⟨q, 2, none⟩ = some (.int .i64 d) ∧ KeepA R q g base A c bs y m d w2 W := by
  obtain ⟨c0, c1, c2, _⟩ := cells6 k.dbox
  exact ⟨c0, c1, c2, k⟩
end

set_option maxRecDepth 100000 in
set_option maxHeartbeats 2000000 in
theorem drawAddMonths (A : Option Addr) (c : Nat) (bs : List Int) (w : World) (h : Code0 w A bs) : Calls Tryd.prog 15 #[.slice A bs.length c] w (DrawnDI w) := by
  have h0 := heap_alloc_new w (.cells #[.int .i64 0, .int .i64 0, .int .i64 0] 31)
  have b0 := below_alloc w (.cells #[.int .i64 0, .int .i64 0, .int .i64 0] 31)
  have hc := h.below b0
  have hsz : (w.alloc (.cells #[.int .i64 0, .int .i64 0, .int .i64 0] 31)).heap.size = w.heap.size + 1 := by simp
  go_enter Tryd.func15, Tryd.ntmps15
  go_wp2_with fail
  refine (code_from A c bs _ hc).mono ?_
  rintro e w1 ⟨g, rfl, s1, b1⟩
  have hgr : w.heap.size < g := by have := s1.1; omega
  go_wp2_with fail
  refine (date_any g _ A c bs _ s1).mono ?_
  rintro e w2 ⟨y, m, d, rfl, s2, g2⟩
  have b2 := src_below b1 g2 s1.1
  have h2 := (keep6 b2 h0).1
  have a2 := below_alloc w2 (.cells #[.int .i64 y, .int .i64 m, .int .i64 d] 31)
  have h2a := (keep6 a2 h2).1
  have d2 := heap_alloc_new w2 (.cells #[.int .i64 y, .int .i64 m, .int .i64 d] 31)
  have s2a := s2.alloc (.cells #[.int .i64 y, .int .i64 m, .int .i64 d] 31)
  have b2a := belowGo b2 a2
  have hgl := s2.lt
  have hq : w2.heap.size ≠ g := by omega
  have hR : w.heap.size ≠ g := by omega
  have k0 : KeepA w.heap.size w2.heap.size g (w.alloc (.cells #[.int .i64 0, .int .i64 0, .int .i64 0] 31)).heap.size A c bs y m d (w2.alloc (.cells #[.int .i64 y, .int .i64 m, .int .i64 d] 31)) (w2.alloc (.cells #[.int .i64 y, .int .i64 m, .int .i64 d] 31)) :=
    ⟨s2a, World.grownBy.refl _ _, d2, _, _, _, h2a⟩
  have hb3 : ∀ W, KeepA w.heap.size w2.heap.size g (w.alloc (.cells #[.int .i64 0, .int .i64 0, .int .i64 0] 31)).heap.size A c bs y m d (w2.alloc (.cells #[.int .i64 y, .int .i64 m, .int .i64 d] 31)) W → Below w.heap.size w W := fun W k =>
    belowGo b0 (src_below b2a k.gr s1.1)
  clear h0 h2 a2 h2a d2 s2a b2a b2 b1 hc h b0
  generalize (w.alloc (.cells #[.int .i64 0, .int .i64 0, .int .i64 0] 31)).heap.size = base at *
  generalize hwd : w2.alloc (.cells #[.int .i64 y, .int .i64 m, .int .i64 d] 31) = wd at *
  have k1 := k0.drew
  have HN := Lib.hid (fun W (k : KeepA w.heap.size w2.heap.size g base A c bs y m d wd W) => (next_any g 40 base A c bs W k.src (by omega)).mono fun e w' h =>
    (by obtain ⟨r, he, r0, r1, s, hg⟩ := h; exact ⟨r, he, r0, by omega, k.step hq hR s hg⟩ : ∃ r : Int, e = .returned (.int .i64 r) ∧ 0 ≤ r ∧ r ≤ 39 ∧ KeepA w.heap.size w2.heap.size g base A c bs y m d wd w'))
  have HP := Lib.hid (fun W (r : Int) (r0 : 0 ≤ r) (r1 : r ≤ 39) (k : KeepA w.heap.size w2.heap.size g base A c bs y m d wd W) => (pick_new g 7 [0, 1, 12, r, 600, 601, -1] (-1) 601 base A c bs W k.src rfl (by omega) (by omega) (by
      intro x hx
      simp only [List.mem_cons, List.not_mem_nil, or_false] at hx
      omega)).mono fun e w' h =>
    (by obtain ⟨r, he, r0, r1, s, hg⟩ := h; exact ⟨r, he, k.step hq hR s hg⟩ : ∃ r : Int, e = .returned (.int .i64 r) ∧ KeepA w.heap.size w2.heap.size g base A c bs y m d wd w'))
  clear s1 s2 g2
  have hRq : w2.heap.size ≠ w.heap.size := by omega
  go_wp2_with fail
  go_region_held3 (fun w' => w'.cell? ⟨w2.heap.size, 0, none⟩ = some (.int .i64 y) ∧ w'.cell? ⟨w2.heap.size, 1, none⟩ = some (.int .i64 m) ∧ w'.cell? ⟨w2.heap.size, 2, none⟩ = some (.int .i64 d)) (first | exact KeepA.three k1 | exact KeepA.three (by assumption) | exact KeepA.three (KeepA.alloc (by assumption) _) | exact KeepA.set (by assumption) hRq _ _ _)
    (first
      | (go_at_call 30; refine (HN.out _ ?_).mono ?_; assumption; rintro e w3 ⟨r3, rfl, r30, r31, k3⟩)
      | (go_at_call 27; refine (HP.out _ r3 ?_ ?_ ?_).mono ?_; assumption; assumption; assumption; rintro e w4 ⟨r4, rfl, k4⟩; obtain ⟨z0, z1, z2, v0, v1, v2, v3, v4, v5⟩ := KeepA.rcells k4))
  all_goals
    go_wp2_with fail
    obtain ⟨u0, u1, u2, hres⟩ := k4.res
    obtain ⟨W, hW, e0, e1, e2, bW⟩ := done3 hres (.int .i64 y) (.int .i64 m) (.int .i64 d)
    rw [hW]
    have b6 := bW w.heap.size w (Nat.le_refl _) (hb3 _ k4)
    clear hW hres bW hb3 k0 k1 k3 k4 HN HP v0 v1 v2 v3 v4 v5
    exact bodyPost_ret (v := .tuple #[.agg #[.int .i64 y, .int .i64 m, .int .i64 d], .int .i64 r4]) (by simp [results, Tryd.results15, go_sem, e0, e1, e2]) rfl ⟨y, m, d, r4, rfl, b6⟩

theorem drawReadDate (A : Option Addr) (c : Nat) (bs : List Int) (w : World) (h : Code0 w A bs) : Calls Tryd.prog 21 #[.slice A bs.length c] w (DrawnS w) := by
  go_enter Tryd.func21, Tryd.ntmps21
  go_wp2_with fail
  refine (code_from A c bs _ h).mono ?_
  rintro e w1 ⟨g, rfl, s1, b1⟩
  go_wp2_with fail
  refine (valid_any g _ A c bs _ s1).mono ?_
  rintro e w2 ⟨y, m, d, rfl, ho, s2, g2⟩
  have b2 := src_below b1 g2 s1.1
  obtain ⟨Y, M, D, rfl, rfl, rfl, hy, hy2, hm, hd⟩ := nats_of (okD_iff.2 ho)
  have hlt : (dtext Y M D).length ≤ 30 := by
    have := dec_len 18 Y (by omega)
    unfold dtext
    rw [List.length_append, List.length_cons, List.length_append, List.length_cons, two_len, two_len]; omega
  have HT := Lib.hid (fun w => ltext_s Y M D (by omega) hm hd w)
  generalize dtext Y M D = t at *
  go_wp2_with fail
  refine (HT.out _).mono ?_
  rintro e w3 ⟨rfl, b3⟩
  have b4 := belowGo b2 b3
  have s3 := s2.below b3
  go_wp2_with fail
  refine (next_any g _ _ A c bs _ s3 (by omega)).mono ?_
  rintro e w6 ⟨r6, rfl, a6, c6, s6, g6⟩
  have b7 := src_below b4 g6 s1.1
  by_cases h0 : r6 = 0
  · subst h0
    go_wp2_with fail
    refine (damage_any g t (by omega) _ A c bs _ s6).mono ?_
    rintro e w7 ⟨l, rfl, hl7, s7, g7⟩
    go_wp2_with fail
    go_ret
    exact ⟨l, rfl, by omega, src_below b7 g7 s1.1⟩
  · have e0 : (r6 == 0) = false := beq_eq_false_iff_ne.2 h0
    go_wp2_with fail
    go_ret
    exact ⟨t, rfl, by omega, b7⟩
end Go.Proofs.YtpnkjpfhmiaffaaDoor
