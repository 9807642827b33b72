/- The draws of chapter 8: a valid log, a log or another list. -/
import Derived.Test.YtifioecofeojpaaDre
import Derived.Test.YtifioecofeojpaaEvr
import Derived.Test.YtifioecofeojpaaEva
import Derived.Test.YtifioecofeojpaaMRate
namespace Go.Proofs.Ytifioecofeojpaa
open Go.ChangeShapes Go.WideShapes Go.ChangeAt Go.RowKit
set_option linter.unusedVariables false

theorem own_srcE {w w' : World} {W : Nat} {e : TypeId} {g n size : Nat} {v : Value} {xs : List Value} (h : w.ownsRow W e size v n xs) (hg : w.grownBy w' (some g)) (hW : g < W) : w'.ownsRow W e size v n xs := by
  refine World.ownsRow.kept h hg ?_
  cases hv : v.ownBlock with
  | none => exact .inl rfl
  | some k => right; intro e; have := (h.lt k hv).1; injection e with e; omega
theorem lt_ofE {wr : World} {g : Nat} {o : Obj} (h : wr.heap[g]? = some o) : g < wr.heap.size := lt_some h
theorem snoc_deq {ps : List Evt} {x : Evt} (h : ∀ p ∈ ps, Deq p) (hx : Deq x) : ∀ p ∈ ps ++ [x], Deq p := by
  intro p hp
  rcases List.mem_append.1 hp with h2 | h2
  · exact h p h2
  · rw [List.mem_singleton.1 h2]; exact hx
theorem add_deq {ps : List Evt} {x : Evt} (h : ∀ p ∈ ps, Deq p) (hx : Deq x) : ∀ p ∈ (addR ps x).1, Deq p := by
  intro p hp
  unfold addR at hp
  split at hp
  · split at hp
    · simp at hp
    · simp only [addE, List.mem_append, List.mem_cons] at hp
      rcases hp with h2 | rfl | h2
      · exact h p (List.mem_of_mem_take h2)
      · exact hx
      · exact h p (List.mem_of_mem_drop h2)
  · simp at hp
theorem sz_deq {p : Evt} (h : Deq p) : p.sz ≤ 1048576 := by unfold Deq at h; unfold Evt.sz; omega
def EDr (w : World) (lo : Nat) (B : Option Addr) (d : Nat) (ps : List Evt) : Prop := ps.length ≤ 16 ∧ EvtO w lo B ps.length d ps ∧ ∀ p ∈ ps, Deq p
def NewEV (w : World) (base g : Nat) (A : Option Addr) (c : Nat) (bs : List Int) (e : Ending) (w' : World) : Prop :=
  ∃ B d ps, e = .returned (.slice B (List.length ps) d) ∧ ps.length ≤ 7 ∧ EvtO w' w.heap.size B ps.length d ps ∧ (∀ p ∈ ps, Deq p) ∧ Src w' base g A c bs ∧ w.grownBy w' (some g)
def NewED (w : World) (base g : Nat) (A : Option Addr) (c : Nat) (bs : List Int) (e : Ending) (w' : World) : Prop :=
  ∃ B d ps, e = .returned (.slice B (List.length ps) d) ∧ EDr w' w.heap.size B d ps ∧ Src w' base g A c bs ∧ w.grownBy w' (some g)
set_option maxRecDepth 100000 in
set_option maxHeartbeats 4000000 in
theorem valid_e (g : Nat) (base : Nat) (A : Option Addr) (c : Nat) (bs : List Int) (w : World) (h : Src w base g A c bs) :
    Calls Try.prog 79 #[.pointer (some ⟨g, 0, none⟩)] w (NewEV w base g A c bs) := by
  have hgl := h.lt
  have H0 : (w.alloc (Obj.cells #[] 26)).ownsRow w.heap.size 26 7 (.slice (some ⟨w.heap.size, 0, none⟩) 0 0) 0 [] := World.ownsRow_made w #[] 0 (Nat.le_refl _) (by decide) (by simp)
  go_enter Try.func79, Try.ntmps79
  go_wp2_with fail
  refine (next_any g _ base A c bs _ (h.alloc _) (by omega)).mono ?_
  rintro e w1 ⟨r1, rfl, a1, b1, h1, g1⟩
  have H1 := own_srcE H0 g1 hgl
  have G1 : w.grownBy w1 (some g) := (World.grownBy_alloc w _ _).trans g1
  clear H0 g1
  go_wp2_with fail
  go_loopw [3, 4] (fun v n wr => ∃ (k : Int) (B : Option Addr) (d : Nat) (ys : List Evt), n = .int .i64 k ∧ v = .slice B ys.length d ∧ 0 ≤ k ∧ ys.length + k ≤ 7 ∧ Hid (∀ p ∈ ys, Deq p) ∧ EvtO wr w.heap.size B ys.length d ys ∧ Src wr base g A c bs ∧ w.grownBy wr (some g)) (fun _ n _ => (intOf n).toNat)
  case atStart => exact ⟨r1, some ⟨w.heap.size, 0, none⟩, 0, [], rfl, rfl, by omega, by simp; omega, Lib.hid (by simp), H1, h1, G1⟩
  case round =>
    obtain ⟨k, B, d, ys, rfl, rfl, k0, kl, hok, hown, hs, hg⟩ := hrel
    clear H1 h1 G1 h
    by_cases hk : 0 < k
    · go_wp2_with fail
      refine (event_any g base A c bs _ hs).mono ?_
      rintro e w3 ⟨q, rfl, hq, h3, g3⟩
      have hown3 : EvtO w3 w.heap.size B ys.length d ys := own_srcE hown g3 hgl
      have G3 := hg.trans g3
      clear hown hs hg g3
      have HA := Lib.hid (adde_s B d ys q w3 (etbl_of hown3 (fun p hp => sz_deq (hok.out p hp)) (by omega)) (by have := sz_deq hq; omega))
      have hlen := addR_len ys q
      have hdq := Lib.hid (add_deq hok.out hq)
      generalize addR ys q = pr at *
      obtain ⟨zs, code⟩ := pr
      simp only at hlen
      go_wp2_with fail
      refine HA.out.mono ?_
      rintro e w4 ⟨B4, d4, rfl, o4, b4⟩
      have h4 := h3.keep (b4.mono (by have := h3.lt; omega))
      have G4 := grown_below G3 (b4.mono G3.size)
      simp only at o4
      by_cases hz : code = 0
      · subst hz
        have o5 : EvtO w4 w.heap.size B4 zs.length d4 zs := o4.mono G3.size
        clear o4 hown3 b4 h3 HA
        go_wp2_with fail
        go_roundw
        case rel => exact ⟨k - 1, B4, d4, zs, rfl, rfl, by omega, by omega, hdq, o5, h4, G4⟩
        case measure => simp [intOf]; omega
      · have hz2 : (code == 0) = false := beq_eq_false_iff_ne.2 hz
        have o5 : EvtO w4 w.heap.size B ys.length d ys := hown3.below b4
        clear o4 hown3 b4 h3 HA hz
        go_wp2_with fail
        go_roundw
        case rel => exact ⟨k - 1, B, d, ys, rfl, rfl, by omega, by omega, hok, o5, h4, G4⟩
        case measure => simp [intOf]; omega
    · have hk0 : k = 0 := by omega
      subst hk0
      go_wp2_with fail
      go_ret
      exact ⟨B, d, ys, rfl, by omega, hown, hok.out, hs, hg⟩
def lnE : Value → Nat
  | .slice _ n _ => n
  | _ => 0
set_option maxRecDepth 100000 in
set_option maxHeartbeats 8000000 in
theorem draw_e (g : Nat) (base : Nat) (A : Option Addr) (c : Nat) (bs : List Int) (w : World) (h : Src w base g A c bs) :
    Calls Try.prog 48 #[.pointer (some ⟨g, 0, none⟩)] w (NewED w base g A c bs) := by
  obtain ⟨i0, hi, hz0, hz1, hz2⟩ := info_parts evtInfo
  have hgl := h.lt
  go_enter Try.func48, Try.ntmps48
  go_wp2_with fail
  refine (valid_e g base A c bs _ h).mono ?_
  rintro e w1 ⟨B, d, ps, rfl, hp7, o1, hok, s1, g1⟩
  have HOK := Lib.hid hok
  clear h hok
  go_wp2_with fail
  refine (next_any g _ base A c bs _ s1 (by omega)).mono ?_
  rintro e w3 ⟨r, rfl, ra, rb, s3, g3⟩
  have o3 : EvtO w3 w.heap.size B ps.length d ps := own_srcE o1 g3 hgl
  have G3 := g1.trans g3
  clear o1 s1 g1 g3
  rcases (by omega : r = 0 ∨ r = 1 ∨ 1 < r) with rfl | rfl | hr
  · go_wp2_with fail
    refine (event_any g base A c bs _ s3).mono ?_
    rintro e w4 ⟨q, rfl, hq, s4, g4⟩
    have o4 : EvtO w4 w.heap.size B ps.length d ps := own_srcE o3 g4 hgl
    have G4 := G3.trans g4
    clear o3 s3 G3 g4
    go_wp2_with (at_builtin; refine wpList_push _ rfl (.tmp 11) (.tmp 14) 24 rfl w.heap.size 26 i0 _ 7 48 Try.underlying24 hi hz0 hz1 hz2 rfl (by decide) (.slice B ps.length d) ps.length _ rfl o4 [.int .i64 q.d, .int .i64 q.k, .string ⟨q.c.toArray⟩, .int .i64 q.a, .bool q.p, .bool q.v, .bool q.r] rfl (by simp [Value.oneCell']) rfl (by unfold maxLen; omega) (by omega) G4.size ?_; intro v' w' hown' hb')
    go_ret
    obtain ⟨B', d', rfl⟩ := own_form hown'
    exact ⟨B', d', ps ++ [q], by simp, ⟨by simp; omega, by simpa [EvtO, Evt.cells] using hown', snoc_deq HOK.out hq⟩, s4.keep (hb'.mono (by omega)), grown_below G4 hb'⟩
  · have hC : RowE (w3.alloc (.cells #[.int .i64 20040, .int .i64 0, .string ⟨#[115, 104, 105, 112]⟩, .int .i64 100, .bool false, .bool false, .bool false] 26)) w3.heap.size (.int .i64 20040) (.int .i64 0) (.string ⟨#[115, 104, 105, 112]⟩) (.int .i64 100) (.bool false) (.bool false) (.bool false) := heap_alloc_new w3 _
    have oA : EvtO (w3.alloc (.cells #[.int .i64 20040, .int .i64 0, .string ⟨#[115, 104, 105, 112]⟩, .int .i64 100, .bool false, .bool false, .bool false] 26)) w.heap.size B ps.length d ps := o3.below (below_alloc w3 _)
    have hCg : w3.heap.size ≠ g := by have := s3.lt; omega
    have hCn : Hid (∀ k, (Value.slice B ps.length d).ownBlock = some k → k < w3.heap.size) := Lib.hid (fun k hk => (o3.lt k hk).2)
    have sA := s3.alloc (.cells #[.int .i64 20040, .int .i64 0, .string ⟨#[115, 104, 105, 112]⟩, .int .i64 100, .bool false, .bool false, .bool false] 26)
    have GA := grown_alloc G3 (.cells #[.int .i64 20040, .int .i64 0, .string ⟨#[115, 104, 105, 112]⟩, .int .i64 100, .bool false, .bool false, .bool false] 26)
    have hwC : w.heap.size ≤ w3.heap.size := G3.size
    clear o3 s3 G3
    go_wp2_with fail
    go_loopw [3] (fun v wr => ∃ (B : Option Addr) (d : Nat) (ps : List Evt), v = .slice B ps.length d ∧ ps.length ≤ 16 ∧ Hid (∀ p ∈ ps, Deq p) ∧ EvtO wr w.heap.size B ps.length d ps ∧ Hid (∀ k, v.ownBlock = some k → k ≠ w3.heap.size) ∧ RowE wr w3.heap.size (.int .i64 20040) (.int .i64 0) (.string ⟨#[115, 104, 105, 112]⟩) (.int .i64 100) (.bool false) (.bool false) (.bool false) ∧ Src wr base g A c bs ∧ w.grownBy wr (some g)) (fun v _ => 17 - lnE v)
    case atStart => exact ⟨B, d, ps, rfl, by omega, HOK, oA, Lib.hid (fun k hk => by have := hCn.out k hk; omega), hC, sA, GA⟩
    case round =>
      clear hC oA hCn sA GA HOK hp7
      obtain ⟨B, d, ps, rfl, hp16, hok, hown, hne, hC, hs, hg⟩ := hrel
      go_wp2_with fail
      refine (next_any g _ base A c bs _ hs (by omega)).mono ?_
      rintro e w4 ⟨r3, rfl, a3, b3, h3, g3⟩
      have o4 : EvtO w4 w.heap.size B ps.length d ps := own_srcE hown g3 hgl
      have G4 := hg.trans g3
      have C4 : RowE w4 w3.heap.size _ _ _ _ _ _ _ := keepG g3 hC hCg
      clear hown hg g3 hs hC
      by_cases hc : (ps.length : Int) < 15 + r3
      · obtain ⟨c0, c1, c2, c3, c4, c5, c6, _, _, _, _, _, _, _⟩ := celE C4
        go_wp2_with (at_builtin; refine wpList_push2 _ rfl (.tmp 25) (.tmp 27) 24 rfl w.heap.size 26 i0 _ 7 48 Try.underlying24 hi hz0 hz1 hz2 rfl (by decide) (.slice B ps.length d) ps.length _ rfl o4 [.int .i64 20040, .int .i64 0, .string ⟨#[115, 104, 105, 112]⟩, .int .i64 100, .bool false, .bool false, .bool false] rfl (by simp [Value.oneCell']) rfl (by unfold maxLen; omega) (by omega) G4.size ?_; intro v' w' hown' hb' hv')
        have hlo := fun k hk => (o4.lt k hk).1
        have hC5 : RowE w' w3.heap.size _ _ _ _ _ _ _ := (hb'.block _ (lt_ofE C4) (fun e => hne.out _ e.symm rfl)).trans C4
        have hb2 : Below w.heap.size w4 w' := (Below.refl _ _).grown hb' G4.size hlo
        have hne' : Hid (∀ k, v'.ownBlock = some k → k ≠ w3.heap.size) := Lib.hid (fun k hk => by
          rcases hv' with e | ⟨j, hj, e⟩
          · exact hne.out k (e ▸ hk)
          · rw [e] at hk; injection hk with hk; have := lt_ofE C4; omega)
        obtain ⟨B', d', rfl⟩ := own_form hown'
        go_wp2_with fail
        go_roundw
        case rel => exact ⟨B', d', ps ++ [⟨20040, 0, [115, 104, 105, 112], 100, false, false, false⟩], by simp, by simp; omega, Lib.hid (snoc_deq hok.out (by unfold Deq; decide)), by simpa [EvtO, Evt.cells] using hown', hne', hC5, h3.keep (hb2.mono (by omega)), grown_below G4 hb2⟩
        case measure => simp [lnE]; omega
      · go_wp2_with fail
        go_ret
        exact ⟨B, d, ps, rfl, ⟨hp16, o4, hok.out⟩, h3, G4⟩
  · have n0 : (r == 0) = false := beq_eq_false_iff_ne.2 (by omega)
    have n1 : (r == 1) = false := beq_eq_false_iff_ne.2 (by omega)
    have hok := HOK.out
    clear HOK
    go_wp2_with fail
    go_ret
    exact ⟨B, d, ps, rfl, ⟨by omega, o3, hok⟩, s3, G3⟩
end Go.Proofs.Ytifioecofeojpaa
